/-
  slices.Clone of numbers and of nodes, walked.; A node's copy in memory of its own (looks.go's own): what is kept while it is made.; A node's copy in memory of its own: one node more is copied.; A node's copy in memory of its own: the function that is handed each node.; A node's copy in memory of its own (looks.go's own), walked.; The nodes of some kinds (looks.go's All): what is kept while they are gathered.; The nodes of some kinds (looks.go's All): one node more.; The nodes of some kinds (looks.go's All): the function that is handed each node.; The nodes of some kinds (looks.go's All), walked.; unit's Opens: all opens, in order.
-/
import Derived.Test.YtmpmfamiegpmgaaGreatDoorGF
import Derived.OwnWalk
import Derived.Laws.AppendOwn
import Derived.Test.YtmpmfamiegpmgaaGreatDoorGU
import Derived.BigRegion
import Derived.Deep.RegionWith
import Derived.Deep.AppendLies
import Derived.Deep.RegionLaw
import Derived.Deep.CutRange
import Derived.BigQuiet
import Derived.Test.YtmpmfamiegpmgaaGreatDoorHA
import Derived.Deep.Cut
namespace Go.Proofs.YtmpmfamiegpmgaaGreatDoor
open Tryz
open Go.Lib (cell_of_heap hid)
open Go.RowKit
set_option maxRecDepth 20000
set_option linter.unusedVariables false
set_option linter.unusedSimpArgs false
def gB (h:Hd):List Value:=[.int .i64 h.k,.int .i64 h.m,.int .i64 h.f,.int .i64 h.t,.slice h.np h.nn h.nc,.slice h.kp h.kn h.kc]
def aT (ks:List Br):List Value:=ks.flatMap fun b=>gB b.h
theorem fP (ks:List Br):(aT ks).length=ks.length * 6:=by
 induction ks with
 | nil=>rfl
 | cons v r ih=>simp only [aT,List.flatMap_cons,List.length_append] at *; rw [ih]; simp [gB]; omega
theorem qU (ks:List Br) (j:Nat) (v:Br) (h:ks[j]?=some v) (r:Nat) (hr:r < 6):(aT ks)[j * 6+r]?=(gB v.h)[r]?:=by
 induction ks generalizing j with
 | nil=>simp at h
 | cons x t ih =>
  have hx:(gB x.h).length=6:=rfl;simp only [aT,List.flatMap_cons] at *
  cases j with
  | zero =>
   simp only [List.getElem?_cons_zero,Option.some.injEq] at h;subst h;rw [Nat.zero_mul,Nat.zero_add,List.getElem?_append_left (by omega)]
  | succ j =>
   simp only [List.getElem?_cons_succ] at h;rw [List.getElem?_append_right (by omega),show (j+1) * 6+r - (gB x.h).length=j * 6+r by omega];exact ih j h
theorem yT (ks:List Br):∀ u ∈ aT ks,u.oneCell'=true:=fun u hu=>by
 obtain ⟨b,_,h⟩:=List.mem_flatMap.1 hu;simp only [gB,List.mem_cons,List.not_mem_nil,or_false] at h
 rcases h with rfl | rfl | rfl | rfl | rfl | rfl <;> rfl
theorem Jz {w:World} {b off:Nat} {ks:List Br} (hat:Nw w b off ks):∀ j u,(aT ks)[j]?=some u→w.cell? ((⟨b,off,none⟩:Addr).add j)=some u:=fun j u hu=>by
 have hj:j < ks.length * 6:=by rw [← fP]; exact (List.getElem?_eq_some_iff.1 hu).1
 have hi:j / 6 < ks.length:=by omega
 have hg:=qU ks (j / 6) ks[j / 6] (List.getElem?_eq_getElem hi) (j % 6) (Nat.mod_lt _ (by omega));rw [show j / 6 * 6+j % 6=j by omega,hu] at hg;have ha:((⟨b,off,none⟩:Addr).add j)=⟨b,off+j,none⟩:=by unfold Addr.add; split <;> simp_all
 rw [ha];obtain ⟨c0,c1,c2,c3,c4,c5⟩:=hat (j / 6) hi;have h6:j % 6 < 6:=Nat.mod_lt _ (by omega);have hjj:off+j=off+j / 6 * 6+j % 6:=by omega
 rw [hjj];generalize j % 6=r at *
 match r,h6,hg with
 | 0,_,hg=>exact c0.trans hg.symm
 | 1,_,hg=>exact c1.trans hg.symm
 | 2,_,hg=>exact c2.trans hg.symm
 | 3,_,hg=>exact c3.trans hg.symm
 | 4,_,hg=>exact c4.trans hg.symm
 | 5,_,hg=>exact c5.trans hg.symm
theorem Jg {w:World} {b off:Nat} {l:List Int} (hat:AtV mkI w b off l):∀ j u,(l.map mkI)[j]?=some u→w.cell? ((⟨b,off,none⟩:Addr).add j)=some u:=fun j u hu=>by
 have ha:((⟨b,off,none⟩:Addr).add j)=⟨b,off+j,none⟩:=by unfold Addr.add; split <;> simp_all
 rw [ha];have hj:j < l.length:=by have:=(List.getElem?_eq_some_iff.1 hu).1; simpa using this
 rw [hat j hj];rw [List.getElem?_map,List.getElem?_eq_getElem hj] at hu;exact hu
theorem NK (l:List Int):∀ u ∈ l.map mkI,u.oneCell'=true:=fun u hu=>by
 obtain ⟨x,_,rfl⟩:=List.mem_map.1 hu; rfl
set_option maxHeartbeats 4000000 in
theorem ES (w:World) (p:Option Addr) (n c:Nat) (ks:List Br) (h:lF w p n c ks) (hn:n≤10000000) :
  Calls prog 102 #[.slice p n c] w fun e w'=>∃ q d,e=.returned (.slice q n d)∧Below w.heap.size w w'∧w'.ownsRow w.heap.size 26 6 (.slice q n d) n (aT ks):=by
 obtain ⟨i26,yI,hz0,hz1,hz2⟩:∃ i26,prog.info? 26=some i26∧i26.zero=some (.agg #[.int .i64 0,.int .i64 0,.int .i64 0,.int .i64 0,.slice none 0 0,.slice none 0 0])∧i26.size=6∧i26.bytes=80:=by
  refine ⟨_,rfl,?_,?_,?_⟩ <;> kernel_rfl
 have HK:=hid h;clear h
 cases p with
 | none =>
  have hn0:n=0∧ks=[]:=by
   obtain ⟨h1,h0 | ⟨b,off,hp,_⟩⟩:=HK.out
   ·exact ⟨h0,List.length_eq_zero_iff.1 (by omega)⟩
   ·cases hp
  obtain ⟨rfl,rfl⟩:=hn0;have he:∀ w:World,(binOp .eql 24 (.slice none 0 c) (.slice none 0 0)).run prog w=.ok (.bool true) w:=fun _=>rfl
  clear HK
  go_enter func102,ntmps102
  go_wp2_with fail
  go_ret
  exact ⟨none,0,rfl,Below.refl _ _,World.ownsRow_nil _ _ _ _⟩
 | some ad =>
  have HN:Hid (∀ j u,(aT ks)[j]?=some u→w.cell? (ad.add j)=some u):=hid (by
   obtain ⟨h1,h0 | ⟨b,off,hp,_,_,hat⟩⟩:=HK.out
   ·obtain rfl:ks=[]:=List.length_eq_zero_iff.1 (by omega)
    intro j u hu; simp [aT] at hu
   ·cases hp; exact Jz hat)
  have yE:Hid (ks.length=n):=hid HK.out.1.symm;have yA:Hid (∀ (j:Nat) (u:Value),(aT ks)[j]?=some u→ad.block < w.heap.size):=hid (by
   obtain ⟨h1,h0 | ⟨b,off,hp,_,hb,hat⟩⟩:=HK.out
   ·obtain rfl:ks=[]:=List.length_eq_zero_iff.1 (by omega)
    intro j u hu; simp [aT] at hu
   ·cases hp; intro j u _; exact hb)
  have VE:Hid ((w.alloc (.cells #[] 26)).ownsRow w.heap.size 26 6 (.slice (some ⟨w.heap.size,0,none⟩) 0 0) 0 []):=hid (World.ownsRow_lit w #[] 0 (Nat.le_refl _) (by unfold maxLen; omega) rfl);have HB0:=hid ((Below.refl w.heap.size w).alloc (Nat.le_refl _) (.cells #[] 26));have Vj:Hid (∀ j u,(aT ks)[j]?=some u→(w.alloc (.cells #[] 26)).cell? (ad.add j)=some u):=hid fun j u hu=>by
   have h1:=yA.out j u hu;have h2:=HN.out j u hu;have h3:(ad.add j).block < w.heap.size:=by unfold Addr.add; split <;> exact h1
   exact (HB0.out.cell h3).trans h2
  have hL:(aT ks).length=n * 6:=by rw [fP,yE.out]
  have QR:=hid hL;clear HK HN yA hL;have he:∀ w:World,(binOp .eql 24 (.slice (some ad) n c) (.slice none 0 0)).run prog w=.ok (.bool false) w:=fun _=>rfl
  go_enter func102,ntmps102
  go_wp2_with (at_builtin; refine wpList_append_own _ rfl _ _ 24 rfl w.heap.size 26 i26 _ 6 80 underlying24 yI hz0 hz1 hz2 rfl (by decide) _ _ _ rfl VE.out ad n c (aT ks) rfl QR.out Vj.out (yT ks) (by unfold maxLen; omega) (by omega) HB0.out.size ?_; intro v' w2 hown hgrow _; have HO:=hid hown; have HB:=hid (HB0.out.grown hgrow HB0.out.size (fun a ha=>(World.ownsRow.lt VE.out a ha).1)); clear hown hgrow)
  go_ret
  have ho:=HO.out;rw [Nat.zero_add,List.nil_append] at ho;obtain ⟨q,d,rfl⟩:∃ q d,v'=.slice q n d:=by
   rcases ho.2 with ⟨rfl,h1⟩ | ⟨g,c,cur,rfl,_⟩
   ·exact ⟨none,0,by rw [h1]⟩
   ·exact ⟨_,_,rfl⟩
  exact ⟨q,d,rfl,HB.out,ho⟩
set_option maxHeartbeats 4000000 in
theorem Ez (w:World) (p:Option Addr) (n c:Nat) (l:List Int) (h:InV mkI w p n c l) (hn:n≤10000000) :
  Calls prog 101 #[.slice p n c] w fun e w'=>∃ q d,e=.returned (.slice q n d)∧Below w.heap.size w w'∧w'.ownsRow w.heap.size 3 1 (.slice q n d) n (l.map mkI):=by
 obtain ⟨i3,hi3,hz0,hz1,hz2⟩:∃ i3,prog.info? 3=some i3∧i3.zero=some (.int .i64 0)∧i3.size=1∧i3.bytes=8:=by
  refine ⟨_,rfl,?_,?_,?_⟩ <;> kernel_rfl
 have HK:=hid h;clear h
 cases p with
 | none =>
  have hn0:n=0∧l=[]:=by
   obtain ⟨h1,h0 | ⟨b,off,hp,_⟩⟩:=HK.out
   ·exact ⟨h0,List.length_eq_zero_iff.1 (by omega)⟩
   ·cases hp
  obtain ⟨rfl,rfl⟩:=hn0;have he:∀ w:World,(binOp .eql 23 (.slice none 0 c) (.slice none 0 0)).run prog w=.ok (.bool true) w:=fun _=>rfl
  clear HK
  go_enter func101,ntmps101
  go_wp2_with fail
  go_ret
  exact ⟨none,0,rfl,Below.refl _ _,World.ownsRow_nil _ _ _ _⟩
 | some ad =>
  have HN:Hid (∀ j u,(l.map mkI)[j]?=some u→w.cell? (ad.add j)=some u):=hid (by
   obtain ⟨h1,h0 | ⟨b,off,hp,_,_,hat⟩⟩:=HK.out
   ·obtain rfl:l=[]:=List.length_eq_zero_iff.1 (by omega)
    intro j u hu; simp at hu
   ·cases hp; exact Jg hat)
  have yE:Hid (l.length=n):=hid HK.out.1.symm;have yA:Hid (∀ (j:Nat) (u:Value),(l.map mkI)[j]?=some u→ad.block < w.heap.size):=hid (by
   obtain ⟨h1,h0 | ⟨b,off,hp,_,hb,hat⟩⟩:=HK.out
   ·obtain rfl:l=[]:=List.length_eq_zero_iff.1 (by omega)
    intro j u hu; simp at hu
   ·cases hp; intro j u _; exact hb)
  have VE:Hid ((w.alloc (.cells #[] 3)).ownsRow w.heap.size 3 1 (.slice (some ⟨w.heap.size,0,none⟩) 0 0) 0 []):=hid (World.ownsRow_lit w #[] 0 (Nat.le_refl _) (by unfold maxLen; omega) rfl);have HB0:=hid ((Below.refl w.heap.size w).alloc (Nat.le_refl _) (.cells #[] 3));have Vj:Hid (∀ j u,(l.map mkI)[j]?=some u→(w.alloc (.cells #[] 3)).cell? (ad.add j)=some u):=hid fun j u hu=>by
   have h1:=yA.out j u hu;have h2:=HN.out j u hu;have h3:(ad.add j).block < w.heap.size:=by unfold Addr.add; split <;> exact h1
   exact (HB0.out.cell h3).trans h2
  have QR:Hid ((l.map mkI).length=n * 1):=hid (by rw [List.length_map,yE.out]; omega);clear HK HN yA;have he:∀ w:World,(binOp .eql 23 (.slice (some ad) n c) (.slice none 0 0)).run prog w=.ok (.bool false) w:=fun _=>rfl
  go_enter func101,ntmps101
  go_wp2_with (at_builtin; refine wpList_append_own _ rfl _ _ 23 rfl w.heap.size 3 i3 (.int .i64 0) 1 8 underlying23 hi3 hz0 hz1 hz2 rfl (by omega) _ _ _ rfl VE.out ad n c (l.map mkI) rfl QR.out Vj.out (NK l) (by unfold maxLen; omega) (by omega) HB0.out.size ?_; intro v' w2 hown hgrow _; have HO:=hid hown; have HB:=hid (HB0.out.grown hgrow HB0.out.size (fun a ha=>(World.ownsRow.lt VE.out a ha).1)); clear hown hgrow)
  go_ret
  have ho:=HO.out;rw [Nat.zero_add,List.nil_append] at ho;obtain ⟨q,d,rfl⟩:∃ q d,v'=.slice q n d:=by
   rcases ho.2 with ⟨rfl,h1⟩ | ⟨g,c,cur,rfl,_⟩
   ·exact ⟨none,0,by rw [h1]⟩
   ·exact ⟨_,_,rfl⟩
  exact ⟨q,d,rfl,HB.out,ho⟩
theorem mX (b:Nat) (l:List Br):∀ o e,e ∈ bD b o l→∃ i k,l[i]?=some k∧e=⟨k,b,o+i * 6⟩:=by
 intro o e he;obtain ⟨i,hi⟩:=List.getElem?_of_mem he;rw [iY] at hi
 cases hk:l[i]? with
 | none=>rw [hk] at hi; cases hi
 | some k=>rw [hk] at hi; exact ⟨i,k,hk,by simpa using hi.symm⟩
theorem vS (b:Nat) (l:List Br):∀ o,((bD b o l).map fun e=>(e.b,e.o)).Nodup:=by
 induction l with
 | nil=>intro o; simp [bD]
 | cons x r ih =>
  intro o;simp only [bD,List.map_cons,List.nodup_cons];refine ⟨fun hm=>?_,ih (o+6)⟩
  obtain ⟨e,he,h2⟩:=List.mem_map.1 hm;obtain ⟨i,k,_,rfl⟩:=mX b r (o+6) e he;simp at h2
  omega
def TD (w0:World) (P:Nat→Prop) (w:World) (h:Hd):Prop :=
 h.nn=h.ns.length∧(h.nn=0∨∃ nb cs,h.np=some ⟨nb,0,none⟩∧h.nn≤h.nc∧w0.heap.size≤nb∧¬ P nb∧w.heap[nb]?=some (.cells cs 3 (0,0))∧AtV mkI w nb 0 h.ns)
def WH (A:List BA) (h:Hd) (ks:List Br):Prop:=h.kn=ks.length∧(h.kn=0∨∃ kb,h.kp=some ⟨kb,0,none⟩∧h.kn≤h.kc∧∀ e ∈ bD kb 0 ks,e ∈ A)
def Cop (A:List BA) (w0:World) (P:Nat→Prop) (w:World) (e:BA):Prop :=
 ∃ h:Hd,bP w e.b e.o h∧(h.k=e.y.h.k∧h.m=e.y.h.m∧h.f=e.y.h.f∧h.t=e.y.h.t∧h.ns=e.y.h.ns)∧TD w0 P w h∧WH A h e.y.ks
structure Ow (w0:World) (D st:List BA) (P:Nat→Prop) (w:World):Prop where
 bel:Below w0.heap.size w0 w
 pl:∀ b,P b→w0.heap.size≤b
 blk:∀ e ∈ D++st,w0.heap.size≤e.b∧¬ P e.b∧(∃ i,e.o=i * 6)∧(∃ cs,w.heap[e.b]?=some (.cells cs 26 (0,0)))∧e.y.Lies w0
 nodup:((D++st).map fun e=>(e.b,e.o)).Nodup
 pend:∀ e ∈ st,bP w e.b e.o e.y.h
 done:∀ e ∈ D,Cop (D++st) w0 P w e
theorem hlt {w:World} {b:Nat} {o:Obj} (h:w.heap[b]?=some o):b < w.heap.size:=(Array.getElem?_eq_some_iff.1 h).1
theorem ed {w w':World} {b:Nat} (h:w'.heap[b]?=w.heap[b]?) (j:Nat):w'.cell? ⟨b,j,none⟩=w.cell? ⟨b,j,none⟩:=World.cell?_of_block (a:=⟨b,j,none⟩) h
theorem bP.same {w w':World} {b o:Nat} {h:Hd} (hh:bP w b o h) (he:w'.heap[b]?=w.heap[b]?):bP w' b o h:=by
 obtain ⟨c0,c1,c2,c3,c4,c5⟩:=hh;exact ⟨(ed he _).trans c0,(ed he _).trans c1,(ed he _).trans c2,(ed he _).trans c3,(ed he _).trans c4,(ed he _).trans c5⟩
theorem Ow.move {w0 w w':World} {D st:List BA} {P P':Nat→Prop} (h:Ow w0 D st P w) (hb:Below w0.heap.size w0 w') (hm:∀ b o,w.heap[b]?=some o→¬ P b→w'.heap[b]?=some o) (hp:∀ b,P' b→P b∨w.heap.size≤b):Ow w0 D st P' w':=by
 have DJ:∀ b o,w.heap[b]?=some o→¬ P b→¬ P' b:=fun b o h1 h2 h3=>by
  rcases hp b h3 with h4 | h4
  ·exact h2 h4
  ·have:=hlt h1; omega
 have hsame:∀ b o,w.heap[b]?=some o→¬ P b→w'.heap[b]?=w.heap[b]?:=fun b o h1 h2=>(hm b o h1 h2).trans h1.symm
 refine ⟨hb,fun b hb'=>?_,fun e he=>?_,h.nodup,fun e he=>?_,fun e he=>?_⟩
 ·rcases hp b hb' with h4 | h4
  ·exact h.pl b h4
  ·have:=h.bel.size; omega
 ·obtain ⟨h1,h2,h3,⟨cs,h4⟩,h5⟩:=h.blk e he
  exact ⟨h1,DJ _ _ h4 h2,h3,⟨cs,hm _ _ h4 h2⟩,h5⟩
 ·obtain ⟨h1,h2,h3,⟨cs,h4⟩,h5⟩:=h.blk e (List.mem_append_right _ he)
  exact (h.pend e he).same (hsame _ _ h4 h2)
 ·obtain ⟨h1,h2,h3,⟨cs,h4⟩,h5⟩:=h.blk e (List.mem_append_left _ he)
  obtain ⟨hd,a1,a2,⟨a3,a4⟩,a5⟩:=h.done e he;refine ⟨hd,a1.same (hsame _ _ h4 h2),a2,⟨a3,?_⟩,a5⟩
  rcases a4 with a4 | ⟨nb,cs',b1,b2,b3,b4,b5,b6⟩
  ·exact .inl a4
  ·exact .inr ⟨nb,cs',b1,b2,b3,DJ _ _ b5 b4,hm _ _ b5 b4,fun i hi=>(ed (hsame _ _ b5 b4) _).trans (b6 i hi)⟩
theorem xU {w:World} {b:Nat} {cs:Array Value} (h:w.heap[b]?=some (.cells cs 26 (0,0))) (j:Nat) (v:Value):∃ cs',(w.setCell ⟨b,j,none⟩ v).heap[b]?=some (.cells cs' 26 (0,0)):=by
 have hl:=hlt h;have h2:w.heap[b]=Obj.cells cs 26 (0,0):=(Array.getElem?_eq_some_iff.1 h).2;refine ⟨cs.setIfInBounds j v,?_⟩
 simp [World.setCell,hl,Array.getElem_modify,h2]
theorem nV {w:World} {b b' j j':Nat} {v u:Value} (hne:b≠b'∨j≠j') (h:w.cell? ⟨b',j',none⟩=some u):(w.setCell ⟨b,j,none⟩ v).cell? ⟨b',j',none⟩=some u:=by
 rw [World.cell?_setCell_other (a:=⟨b,j,none⟩) (b:=⟨b',j',none⟩) (h:=fun e=>by simp only [Addr.mk.injEq,and_true] at e; omega)]; exact h
def put2 (w:World) (e:BA) (v1 v2:Value):World:=(w.setCell ⟨e.b,e.o+4,none⟩ v1).setCell ⟨e.b,e.o+5,none⟩ v2
theorem iM {w:World} {e:BA} {v1 v2:Value} {k:Nat} (h:k≠e.b):(put2 w e v1 v2).heap[k]?=w.heap[k]?:=by
 unfold put2;rw [Below.heap_setCell _ ⟨e.b,e.o+5,none⟩ v2 k h,Below.heap_setCell _ ⟨e.b,e.o+4,none⟩ v1 k h]
theorem FM {w:World} {e:BA} {v1 v2:Value} {cs:Array Value} (h:w.heap[e.b]?=some (.cells cs 26 (0,0))):∃ cs',(put2 w e v1 v2).heap[e.b]?=some (.cells cs' 26 (0,0)):=by
 obtain ⟨c1,h1⟩:=xU h (e.o+4) v1;exact xU h1 (e.o+5) v2
theorem fV {w:World} {e:BA} {v1 v2 u:Value} {b j:Nat} (hne:e.b≠b∨(e.o+4≠j∧e.o+5≠j)) (h:w.cell? ⟨b,j,none⟩=some u):(put2 w e v1 v2).cell? ⟨b,j,none⟩=some u :=
 nV (hne.imp id (·.2)) (nV (hne.imp id (·.1)) h)
theorem Qo {w:World} {e:BA} {v1 v2 u1 u2:Value} (h1:w.cell? ⟨e.b,e.o+4,none⟩=some u1) (h2:w.cell? ⟨e.b,e.o+5,none⟩=some u2) :
  (put2 w e v1 v2).cell? ⟨e.b,e.o+4,none⟩=some v1∧(put2 w e v1 v2).cell? ⟨e.b,e.o+5,none⟩=some v2 :=
 ⟨nV (b:=e.b) (j:=e.o+5) (.inr (by omega)) (World.cell?_setCell_same _ _ _ h1),World.cell?_setCell_same _ _ _ (nV (b:=e.b) (j:=e.o+4) (.inr (by omega)) h2)⟩
theorem bP.put2 {w:World} {e:BA} {v1 v2:Value} {b o:Nat} {h:Hd} (hh:bP w b o h) (hne:e.b≠b∨e.o≠o) (h6:(∃ i,e.o=i * 6)∧∃ i,o=i * 6):bP (put2 w e v1 v2) b o h:=by
 obtain ⟨⟨i,hi⟩,⟨i',hi'⟩⟩:=h6;obtain ⟨c0,c1,c2,c3,c4,c5⟩:=hh;have key:∀ r,r < 6→(e.b≠b∨(e.o+4≠o+r∧e.o+5≠o+r)):=fun r hr=>by
  rcases hne with h | h
  ·exact .inl h
  ·exact .inr (by omega)
 exact ⟨fV (key 0 (by omega)) c0,fV (key 1 (by omega)) c1,fV (key 2 (by omega)) c2,fV (key 3 (by omega)) c3,fV (key 4 (by omega)) c4,fV (key 5 (by omega)) c5⟩
theorem Cop.mono {A A':List BA} {w0 w:World} {P:Nat→Prop} {e:BA} (h:Cop A w0 P w e) (hA:∀ x ∈ A,x ∈ A'):Cop A' w0 P w e:=by
 obtain ⟨hd,a1,a2,a3,a4,a5⟩:=h;refine ⟨hd,a1,a2,a3,a4,?_⟩
 rcases a5 with a5 | ⟨kb,b1,b2,b3⟩
 ·exact .inl a5
 ·exact .inr ⟨kb,b1,b2,fun x hx=>hA x (b3 x hx)⟩
theorem kJ {w:World} {B E size n g d:Nat} {xs:List Value} (h:w.ownsRow B E size (.slice (some ⟨g,0,none⟩) n d) n xs) (j:Nat) (u:Value) (hj:xs[j]?=some u):w.cell? ⟨g,j,none⟩=some u:=by
 have hl:j < xs.length:=(List.getElem?_eq_some_iff.1 hj).1
 have:=World.ownsRow.cells h (g:=g) rfl j u hj
 have ha:((⟨g,0,none⟩:Addr).add j)=⟨g,j,none⟩:=by unfold Addr.add; split <;> simp_all
 rwa [ha] at this
theorem nT {w:World} {B n g d:Nat} {ks:List Br} (h:w.ownsRow B 26 6 (.slice (some ⟨g,0,none⟩) n d) n (aT ks)) (i:Nat) (k:Br) (hi:ks[i]?=some k):bP w g (0+i * 6) k.h:=by
 have key:∀ r u,r < 6→(gB k.h)[r]?=some u→w.cell? ⟨g,0+i * 6+r,none⟩=some u:=fun r u hr hu=>by
  rw [Nat.zero_add];exact kJ h (i * 6+r) u ((qU ks i k hi r hr).trans hu)
 exact ⟨key 0 _ (by omega) rfl,key 1 _ (by omega) rfl,key 2 _ (by omega) rfl,key 3 _ (by omega) rfl,key 4 _ (by omega) rfl,key 5 _ (by omega) rfl⟩
theorem Ow.hand {w0 w:World} {D st:List BA} {P:Nat→Prop} {e:BA} {q1 q2:Option Addr} {n1 d1 n2 d2 B:Nat} (h:Ow w0 D (e :: st) P w) (hold:∀ x ∈ D++(e :: st),x.b < B) (hPB:∀ b,P b→b < B) (hB0:w0.heap.size≤B)
  (ho1:w.ownsRow B 3 1 (.slice q1 n1 d1) n1 (e.y.h.ns.map mkI)) (hn1:n1=e.y.h.ns.length) (ho2:w.ownsRow B 26 6 (.slice q2 n2 d2) n2 (aT e.y.ks)) (hn2:n2=e.y.ks.length) :
  ∃ kb,Ow w0 (e :: D) (bD kb 0 e.y.ks++st) P (put2 w e (.slice q1 n1 d1) (.slice q2 n2 d2)) ∧
   bP (put2 w e (.slice q1 n1 d1) (.slice q2 n2 d2)) e.b e.o ⟨e.y.h.k,e.y.h.m,e.y.h.f,e.y.h.t,q1,n1,d1,e.y.h.ns,q2,n2,d2⟩∧(n2=0∨q2=some ⟨kb,0,none⟩∧n2≤d2):=by
 have hee:=h.blk e (by simp);obtain ⟨e1,e2,e3,⟨ecs,e4⟩,e5⟩:=hee;obtain ⟨p0,p1,p2,p3,p4,p5⟩:=h.pend e (by simp);have YJ:∀ k ∈ e.y.ks,k.Lies w0:=((aO _ _).1 e5).2.2
 -- the kids' row
 obtain ⟨kb,hkb⟩:∃ kb,n2=0∨(q2=some ⟨kb,0,none⟩∧n2≤d2∧B≤kb∧(∃ cs,w.heap[kb]?=some (.cells cs 26 (0,0)))∧∀ i k,e.y.ks[i]?=some k→bP w kb (0+i * 6) k.h):=by
  rcases ho2.2 with ⟨_,h0⟩ | ⟨g,cap,cur,hv,hg,hh,hle,_⟩
  ·exact ⟨0,.inl h0⟩
  ·simp only [Value.slice.injEq] at hv
   obtain ⟨rfl,_,rfl⟩:=hv;exact ⟨g,.inr ⟨rfl,hle,hg,⟨cur,hh⟩,fun i k hi=>nT ho2 i k hi⟩⟩
 have hkl:n2=0→bD kb 0 e.y.ks=[]:=fun h0=>by
  have:e.y.ks=[]:=List.length_eq_zero_iff.1 (by omega)
  rw [this]; rfl
 have kP:∀ x ∈ bD kb 0 e.y.ks,∃ i k,e.y.ks[i]?=some k∧x=⟨k,kb,0+i * 6⟩∧B≤kb∧(∃ cs,w.heap[kb]?=some (.cells cs 26 (0,0)))∧bP w kb (0+i * 6) k.h:=fun x hx=>by
  obtain ⟨i,k,h1,h2⟩:=mX _ _ _ _ hx
  rcases hkb with h0 | ⟨_,_,h3,h4,h5⟩
  ·rw [hkl h0] at hx; cases hx
  ·exact ⟨i,k,h1,h2,h3,h4,h5 i k h1⟩
 have heB:e.b < B:=hold e (by simp);have QS:∀ x ∈ D++st,e.b≠x.b∨e.o≠x.o:=fun x hx=>by
  have hp:(D++e :: st).Perm (e :: (D++st)):=List.perm_middle;have hn:=(hp.map fun e=>(e.b,e.o)).nodup_iff.1 h.nodup;simp only [List.map_cons,List.nodup_cons] at hn
  by_cases hb:e.b=x.b
  ·right; intro ho
   exact hn.1 (List.mem_map.2 ⟨x,hx,by rw [hb,ho]⟩)
  ·exact .inl hb
 have hmem:∀ x ∈ D++(e :: st),x ∈ (e :: D)++(bD kb 0 e.y.ks++st):=fun x hx=>by
  simp only [List.mem_append,List.mem_cons] at hx ⊢
  rcases hx with h1 | h1 | h1
  ·exact .inl (.inr h1)
  ·exact .inl (.inl h1)
  ·exact .inr (.inr h1)
 have hblk:∀ x ∈ D++(e :: st),w0.heap.size≤x.b∧¬ P x.b∧(∃ i,x.o=i * 6)∧(∃ cs,(put2 w e (.slice q1 n1 d1) (.slice q2 n2 d2)).heap[x.b]?=some (.cells cs 26 (0,0)))∧x.y.Lies w0:=fun x hx=>by
  obtain ⟨h1,h2,h3,⟨cs,h4⟩,h5⟩:=h.blk x hx;refine ⟨h1,h2,h3,?_,h5⟩
  by_cases hxe:x.b=e.b
  ·rw [hxe] at h4 ⊢
   exact FM h4
  ·exact ⟨cs,(iM hxe).trans h4⟩
 have hbe:bP (put2 w e (.slice q1 n1 d1) (.slice q2 n2 d2)) e.b e.o ⟨e.y.h.k,e.y.h.m,e.y.h.f,e.y.h.t,q1,n1,d1,e.y.h.ns,q2,n2,d2⟩:=by
  obtain ⟨a1,a2⟩:=Qo (v1:=.slice q1 n1 d1) (v2:=.slice q2 n2 d2) p4 p5;exact ⟨fV (.inr (by omega)) p0,fV (.inr (by omega)) p1,fV (.inr (by omega)) p2,fV (.inr (by omega)) p3,a1,a2⟩
 refine ⟨kb,⟨?_,h.pl,fun x hx=>?_,?_,fun x hx=>?_,fun x hx=>?_⟩,hbe,?_⟩
 ·exact (h.bel.setCell (p:=⟨e.b,e.o+4,none⟩) e1 _).setCell (p:=⟨e.b,e.o+5,none⟩) e1 _
 ·simp only [List.cons_append,List.mem_cons,List.mem_append] at hx
  rcases hx with rfl | hx | hx | hx
  ·exact hblk x (by simp)
  ·exact hblk x (by simp [hx])
  ·obtain ⟨i,k,g1,rfl,g2,⟨cs,g3⟩,g4⟩:=kP x hx
   refine ⟨by simp only; omega,fun hp=>by have:=hPB _ hp; simp only at this; omega,⟨i,by simp⟩,⟨cs,(iM (by simp only; omega)).trans g3⟩,YJ k (List.mem_of_getElem? g1)⟩
  ·exact hblk x (by simp [hx])
 ·have hp:((e :: D)++(bD kb 0 e.y.ks++st)).Perm (bD kb 0 e.y.ks++(D++e :: st)):=by
   have h1:((e :: D)++(bD kb 0 e.y.ks++st)).Perm (e :: (bD kb 0 e.y.ks++(D++st))):=by
    rw [List.cons_append];refine List.Perm.cons _ ?_
    rw [← List.append_assoc,← List.append_assoc];exact List.Perm.append_right _ List.perm_append_comm
   refine h1.trans ?_
   refine (List.perm_middle (a:=e) (l₁:=bD kb 0 e.y.ks) (l₂:=D++st)).symm.trans ?_
   exact List.Perm.append_left _ List.perm_middle.symm
  refine (hp.map fun e=>(e.b,e.o)).nodup_iff.2 ?_
  rw [List.map_append];refine List.nodup_append.2 ⟨vS _ _ _,h.nodup,fun a ha c hc hac=>?_⟩
  obtain ⟨x,hx,rfl⟩:=List.mem_map.1 ha;obtain ⟨y,hy,rfl⟩:=List.mem_map.1 hc;obtain ⟨i,k,g1,rfl,g2,_⟩:=kP x hx
  have:=hold y hy
  simp only [Prod.mk.injEq] at hac
  omega
 ·rcases List.mem_append.1 hx with hx | hx
  ·obtain ⟨i,k,g1,rfl,g2,⟨cs,g3⟩,g4⟩:=kP x hx
   exact g4.put2 (.inl (by omega)) ⟨e3,⟨i,by omega⟩⟩
  ·exact (h.pend x (by simp [hx])).put2 (QS x (by simp [hx])) ⟨e3,(h.blk x (by simp [hx])).2.2.1⟩
 ·rcases List.mem_cons.1 hx with rfl | hx
  ·refine ⟨_,hbe,⟨rfl,rfl,rfl,rfl,rfl⟩,⟨hn1,?_⟩,⟨hn2,?_⟩⟩
   ·rcases ho1.2 with ⟨_,h0⟩ | ⟨g,cap,cur,hv,hg,hh,hle,_⟩
    ·exact .inl h0
    ·simp only [Value.slice.injEq] at hv
     obtain ⟨rfl,_,rfl⟩:=hv;have hge:g≠x.b:=by omega
     refine .inr ⟨g,cur,rfl,hle,by omega,fun hp=>by have:=hPB _ hp; omega,(iM hge).trans hh,fun i hi=>?_⟩
     refine (ed (iM hge) _).trans ?_
     rw [Nat.zero_add];exact kJ ho1 i _ (by rw [List.getElem?_map,List.getElem?_eq_getElem hi]; rfl)
   ·rcases hkb with h0 | ⟨g1,g2,_⟩
    ·exact .inl h0
    ·exact .inr ⟨kb,g1,g2,fun y hy=>by simp [hy]⟩
  ·obtain ⟨hd,a1,a2,⟨a3,a4⟩,a5⟩:=(h.done x hx).mono hmem
   obtain ⟨b1,b2,b3,b4,b5⟩:=h.blk x (by simp [hx]);refine ⟨hd,a1.put2 (QS x (by simp [hx])) ⟨e3,b3⟩,a2,⟨a3,?_⟩,a5⟩
   rcases a4 with a4 | ⟨nb,cs',c1,c2,c3,c4,c5,c6⟩
   ·exact .inl a4
   ·have hne:nb≠e.b:=by
     rintro rfl;rw [e4] at c5; injection c5 with c5; injection c5 with _ c5 _; exact absurd c5 (by decide)
    exact .inr ⟨nb,cs',c1,c2,c3,c4,(iM hne).trans c5,fun i hi=>(ed (iM hne) _).trans (c6 i hi)⟩
 ·rcases hkb with h0 | ⟨g1,g2,_⟩
  ·exact .inl h0
  ·exact .inr ⟨g1,g2⟩
theorem oG {w:World} {b b' E size n:Nat} {v:Value} {xs:List Value} (h:w.ownsRow b E size v n xs) (hb:b'≤b):w.ownsRow b' E size v n xs:=by
 obtain ⟨hl,h0 | ⟨g,c,cur,hv,hg,hh,hr⟩⟩:=h
 ·exact ⟨hl,.inl h0⟩
 ·exact ⟨hl,.inr ⟨g,c,cur,hv,Nat.le_trans hb hg,hh,hr⟩⟩
theorem row_step {w w':World} {b E size n:Nat} {v:Value} {xs:List Value} (h:w.ownsRow b E size v n xs) (hw:Below w.heap.size w w'):w'.ownsRow b E size v n xs:=by
 obtain ⟨hl,h0 | ⟨g,c,cur,hv,hg,hh,hr⟩⟩:=h
 ·exact ⟨hl,.inl h0⟩
 ·exact ⟨hl,.inr ⟨g,c,cur,hv,hg,(hw.block g (hlt hh)).trans hh,hr⟩⟩
def OwI (w0:World) (root:BA) (st:List BA) (P:Nat→Prop) (w:World):Prop:=∃ D,root ∈ D++st∧Ow w0 D st P w
def OwJ (w0:World) (root e:BA) (st:List BA) (P:Nat→Prop) (w:World):Prop :=
 ∃ (h:Hd) (kl:List BA),bP w e.b e.o h∧h.kn=kl.length∧szs szB kl+1≤szB e∧(kl.length=0∨∃ b off,h.kp=some ⟨b,off,none⟩∧kl.length≤h.kc∧∀ i e',kl[i]?=some e'→BA.ad e'=⟨b,off+i * 6,none⟩)∧(∀ x ∈ kl,x.y ∈ e.y.ks)∧OwI w0 root (kl++st) P w
theorem TG (e:BA) (kb:Nat):szs szB (bD kb 0 e.y.ks)+1≤szB e:=by
 rw [rM,kC,szB,cZ,List.length_cons]
 omega
theorem OwI.hand {w0 w wz:World} {root e:BA} {st:List BA} {P:Nat→Prop} {q1 q2:Option Addr} {d1 d2:Nat} (hI:OwI w0 root (e :: st) P w) (hP:∀ b,P b→b < w.heap.size) (hb:Below w.heap.size w wz)
  (ho1:wz.ownsRow w.heap.size 3 1 (.slice q1 e.y.h.nn d1) e.y.h.nn (e.y.h.ns.map mkI)) (ho2:wz.ownsRow w.heap.size 26 6 (.slice q2 e.y.h.kn d2) e.y.h.kn (aT e.y.ks)) :
  OwJ w0 root e st P (put2 wz e (.slice q1 e.y.h.nn d1) (.slice q2 e.y.h.kn d2))∧gU P w (put2 wz e (.slice q1 e.y.h.nn d1) (.slice q2 e.y.h.kn d2)):=by
 obtain ⟨D,hr,hO⟩:=hI;have hz:Ow w0 D (e :: st) P wz:=hO.move (hO.bel.trans (hb.mono hO.bel.size)) (fun b o h1 _=>(hb.block b (hlt h1)).trans h1) (fun b h=>.inl h);obtain ⟨e1,e2,e3,⟨cs,e4⟩,e5⟩:=hO.blk e (by simp);obtain ⟨hn,hk,_⟩:=(aO _ _).1 e5;obtain ⟨kb,h1,h2,h3⟩:=hz.hand (B:=w.heap.size) (fun x hx=>by obtain ⟨_,_,_,⟨cs,h⟩,_⟩:=hO.blk x hx; exact hlt h) hP hO.bel.size ho1 hn.1 ho2 hk.1;have hkl:(bD kb 0 e.y.ks).length=e.y.ks.length:=by rw [← List.length_map (f:=BA.y),kC]
 refine ⟨⟨_,bD kb 0 e.y.ks,h2,by rw [hkl]; exact hk.1,TG e kb,?_,(fun x hx=>by obtain ⟨i,k,h1,rfl⟩:=mX _ _ _ _ hx; exact List.mem_of_getElem? h1),⟨e :: D,?_,h1⟩⟩,?_⟩
 ·rcases h3 with h3 | ⟨h3,h4⟩
  ·left; rw [hkl,← hk.1]; exact h3
  ·refine .inr ⟨kb,0,h3,by rw [hkl,← hk.1]; exact h4,fun i e' he=>?_⟩
   rw [iY] at he
   cases hq:e.y.ks[i]? with
   | none=>rw [hq] at he; cases he
   | some k=>rw [hq] at he; simp only [Option.map_some,Option.some.injEq] at he; subst he; rfl
 ·simp only [List.mem_append,List.mem_cons] at hr ⊢
  rcases hr with h | h | h
  ·exact .inl (.inr h)
  ·exact .inl (.inl h)
  ·exact .inr (.inr h)
 ·refine ⟨Nat.le_trans hb.size (by simp [put2]),fun b hPb hbl=>?_⟩
  have hne:b≠e.b:=fun h=>e2 (h ▸ hPb)
  exact (iM hne).trans (hb.block b hbl)
set_option maxHeartbeats 8000000 in
theorem BF (w0:World) (root e:BA) (st:List BA) (P:Nat→Prop) (w:World) (hI:OwI w0 root (e :: st) P w) (hP:∀ b,P b→b < w.heap.size) (hsz:e.y.h.nn≤10000000∧e.y.h.kn≤10000000) :
  Calls prog 100 #[.pointer (some e.ad)] w fun x w'=>x=.returned (.tuple #[])∧OwJ w0 root e st P w'∧gU P w w':=by
 have HI:=hid hI;have HP:=hid hP;obtain ⟨D,hr,hO⟩:=hI;obtain ⟨p0,p1,p2,p3,p4,p5⟩:=hO.pend e (by simp);obtain ⟨e1,e2,e3,⟨cs,e4⟩,e5⟩:=hO.blk e (by simp);have hlies:=(aO _ _).1 e5;have hel:=hlt e4;have Og:Hid (∀ W,Below w.heap.size w W→Calls prog 101 #[.slice e.y.h.np e.y.h.nn e.y.h.nc] W fun x w'=>∃ q d,x=.returned (.slice q e.y.h.nn d)∧Below W.heap.size W w'∧w'.ownsRow W.heap.size 3 1 (.slice q e.y.h.nn d) e.y.h.nn (e.y.h.ns.map mkI)):=hid fun W hW =>
  Ez W _ _ _ _ ((hlies.1.step hO.bel).step hW) hsz.1
 have HC2:Hid (∀ W,Below w.heap.size w W→Calls prog 102 #[.slice e.y.h.kp e.y.h.kn e.y.h.kc] W fun x w'=>∃ q d,x=.returned (.slice q e.y.h.kn d)∧Below W.heap.size W w'∧w'.ownsRow W.heap.size 26 6 (.slice q e.y.h.kn d) e.y.h.kn (aT e.y.ks)):=hid fun W hW =>
  ES W _ _ _ _ ((hlies.2.1.step hO.bel).step hW) hsz.2
 have HW0:Hid (Below w.heap.size w w.drew):=hid (Below.refl _ _).drew;have hfz:w.frozen? ⟨e.b,e.o+4,none⟩=false:=by simp [World.frozen?,e4]
 have VF:w.frozen? ⟨e.b,e.o+5,none⟩=false:=by simp [World.frozen?,e4]
 have Ua:Hid (∀ W,Below w.heap.size w W→W.cell? ⟨e.b,e.o+4,none⟩=some (.slice e.y.h.np e.y.h.nn e.y.h.nc)∧W.cell? ⟨e.b,e.o+5,none⟩=some (.slice e.y.h.kp e.y.h.kn e.y.h.kc)∧W.frozen? ⟨e.b,e.o+4,none⟩=false∧W.frozen? ⟨e.b,e.o+5,none⟩=false):=hid fun W hW =>
  ⟨(hW.cell (p:=⟨e.b,_,none⟩) hel).trans p4,(hW.cell (p:=⟨e.b,_,none⟩) hel).trans p5,(World.frozen?_of_block (a:=⟨e.b,_,none⟩) (hW.block e.b hel)).trans hfz,(World.frozen?_of_block (a:=⟨e.b,_,none⟩) (hW.block e.b hel)).trans VF⟩
 have yD:Hid (∀ wz q1 d1 q2 d2,Below w.heap.size w wz→wz.ownsRow w.heap.size 3 1 (.slice q1 e.y.h.nn d1) e.y.h.nn (e.y.h.ns.map mkI)→wz.ownsRow w.heap.size 26 6 (.slice q2 e.y.h.kn d2) e.y.h.kn (aT e.y.ks) →
   OwJ w0 root e st P (put2 wz e (.slice q1 e.y.h.nn d1) (.slice q2 e.y.h.kn d2))∧gU P w (put2 wz e (.slice q1 e.y.h.nn d1) (.slice q2 e.y.h.kn d2))):=hid fun wz q1 d1 q2 d2 h1 h2 h3=>HI.out.hand HP.out h1 h2 h3
 clear hr hO p0 p1 p2 p3 e1 e2 e3 e4 e5 hlies hP hfz VF hsz;unfold put2 at yD;obtain ⟨y,eb,eo⟩:=e;dsimp only [BA.ad] at *
 generalize y.h.np=np at *;generalize hnn:y.h.nn=nn at *;generalize y.h.nc=nc at *;generalize y.h.kp=kp at *;generalize hkn:y.h.kn=kn at *;generalize y.h.kc=kc at *;clear hnn hkn HI
 go_enter func100,ntmps100
 go_region_with (first
  | (go_at_call 101; have hx:=Eb.out; clear hx; (with_reducible refine Calls.mono (Og.out _ Eb.out) ?_); rintro x wz ⟨q1,d1,rfl,hb1,ho1⟩; have Gj:=hid (Eb.out.trans (hb1.mono Eb.out.size)); have Oc:=hid (oG ho1 Eb.out.size); have mr:=hid (row_step VG.out hb1); obtain ⟨z4,z5,g4,g5⟩:=Ua.out wz Gj.out; clear hb1 ho1)
  | (go_at_call 101; (with_reducible refine Calls.mono (Og.out _ HW0.out) ?_); rintro x wa ⟨q1,d1,rfl,hb1,ho1⟩; have DF:=hid (HW0.out.trans (hb1.mono HW0.out.size)); have HOA:=hid (oG ho1 HW0.out.size); obtain ⟨a4,a5,ag4,ag5⟩:=Ua.out wa DF.out; clear hb1 ho1)
  | (go_at_call 102; have hx:=DF.out; clear hx; (with_reducible refine Calls.mono (HC2.out _ DF.out) ?_); rintro x wz ⟨q2,d2,rfl,hb2,ho2⟩; have Gj:=hid (DF.out.trans (hb2.mono DF.out.size)); have mr:=hid (oG ho2 DF.out.size); have Oc:=hid (row_step HOA.out hb2); obtain ⟨z4,z5,g4,g5⟩:=Ua.out wz Gj.out; clear hb2 ho2)
  | (go_at_call 102; (with_reducible refine Calls.mono (HC2.out _ HW0.out) ?_); rintro x wb ⟨q2,d2,rfl,hb2,ho2⟩; have Eb:=hid (HW0.out.trans (hb2.mono HW0.out.size)); have VG:=hid (oG ho2 HW0.out.size); obtain ⟨b4,b5,bg4,bg5⟩:=Ua.out wb Eb.out; clear hb2 ho2))
 all_goals (go_wp2_with fail; go_end0; exact ⟨rfl,yD.out wz q1 d1 q2 d2 Gj.out Oc.out mr.out⟩)
inductive Ntr where
 | mk (k m f t:Int) (ns:List Int) (ks:List Ntr)
mutual
def Br.ntr:Br→Ntr
 | .mk h ks=>.mk h.k h.m h.f h.t h.ns (ntL ks)
def ntL:List Br→List Ntr
 | []=>[]
 | b :: r=>b.ntr :: ntL r
end
theorem qB:∀ l:List Br,ntL l=l.map Br.ntr
 | []=>rfl
 | b :: r=>by simp only [ntL,List.map_cons,qB r]
def Agr (N:Nat) (w w2:World):Prop:=w.heap.size≤w2.heap.size∧∀ k,N≤k→k < w.heap.size→w2.heap[k]?=w.heap[k]?
theorem Ow.copy {w0 w:World} {D:List BA} {P:Nat→Prop} (h:Ow w0 D [] P w):∀ (y:Br) (b o:Nat),(⟨y,b,o⟩:BA) ∈ D→∃ y':Br,y'.ntr=y.ntr∧∀ w2,Agr w0.heap.size w w2→bP w2 b o y'.h∧y'.Lies w2:=by
 refine Br.ind (P:=fun y=>∀ b o,(⟨y,b,o⟩:BA) ∈ D→∃ y':Br,y'.ntr=y.ntr∧∀ w2,Agr w0.heap.size w w2→bP w2 b o y'.h∧y'.Lies w2) ?_
 intro hd ks ih b o hm;obtain ⟨h1,h2,h3,⟨cs,h4⟩,h5⟩:=h.blk _ (List.mem_append_left _ hm);obtain ⟨h',a1,⟨b1,b2,b3,b4,b5⟩,⟨c1,c2⟩,⟨d1,d2⟩⟩:=h.done _ hm;dsimp only at h1 h4 a1
 simp only [Br.h,Br.ks] at b1 b2 b3 b4 b5 d1 d2;have row:∀ (kb:Nat) (l:List Br) (of:Nat),(∀ k ∈ l,k ∈ ks)→(∀ e ∈ bD kb of l,e ∈ D)→∃ l':List Br,l'.length=l.length∧ntL l'=ntL l∧∀ w2,Agr w0.heap.size w w2→(∀ i k',l'[i]?=some k'→bP w2 kb (of+i * 6) k'.h)∧og w2 l':=by
  intro kb l
  induction l with
  | nil=>intro of _ _; exact ⟨[],rfl,rfl,fun w2 _=>⟨fun i k' hi=>by simp at hi,trivial⟩⟩
  | cons x r ihr =>
   intro of hs he;obtain ⟨x',g1,g2⟩:=ih x (hs x (by simp)) kb of (he ⟨x,kb,of⟩ (by simp [bD]));obtain ⟨r',f1,f2,f3⟩:=ihr (of+6) (fun k hk=>hs k (by simp [hk])) (fun e hm=>he e (by simp [bD,hm]));refine ⟨x' :: r',by simp [f1],by simp only [ntL,g1,f2],fun w2 hw=>⟨fun i k' hi=>?_,?_⟩⟩
   ·cases i with
    | zero=>simp only [List.getElem?_cons_zero,Option.some.injEq] at hi; subst hi; simpa using (g2 w2 hw).1
    | succ i =>
     simp only [List.getElem?_cons_succ] at hi
     have:=(f3 w2 hw).1 i k' hi
     rwa [show of+6+i * 6=of+(i+1) * 6 by omega] at this
   ·simp only [og]; exact ⟨(g2 w2 hw).2,(f3 w2 hw).2⟩
 have names:∀ w2,Agr w0.heap.size w w2→InV mkI w2 h'.np h'.nn h'.nc h'.ns:=fun w2 hw=>by
  refine ⟨c1,?_⟩
  rcases c2 with c2 | ⟨nb,cs',e1,e2,e3,e4,e5,e6⟩
  ·exact .inl c2
  ·have hl:=hlt e5
   exact .inr ⟨nb,0,e1,e2,Nat.lt_of_lt_of_le hl hw.1,fun i hi=>(ed (hw.2 nb e3 hl) _).trans (e6 i hi)⟩
 have hself:∀ w2,Agr w0.heap.size w w2→bP w2 b o h':=fun w2 hw=>a1.same (hw.2 b h1 (hlt h4))
 rcases d2 with d2 | ⟨kb,f1,f2,f3⟩
 ·have hk0:ks=[]:=List.length_eq_zero_iff.1 (by omega)
  subst hk0;refine ⟨.mk h' [],by simp only [Br.ntr,b1,b2,b3,b4,b5],fun w2 hw=>⟨hself w2 hw,?_⟩⟩
  simp only [Br.Lies,og,and_true];exact ⟨names w2 hw,d1,.inl d2⟩
 ·obtain ⟨l',g1,g2,g3⟩:=row kb ks 0 (fun k hk=>hk) (fun e he=>by simpa using f3 e he)
  refine ⟨.mk h' l',by simp only [Br.ntr,b1,b2,b3,b4,b5,g2],fun w2 hw=>⟨hself w2 hw,?_⟩⟩
  simp only [Br.Lies];refine ⟨names w2 hw,⟨by rw [d1,g1],?_⟩,(g3 w2 hw).2⟩
  by_cases hk0:h'.kn=0
  ·exact .inl hk0
  ·have hne:∃ x,ks[0]?=some x:=⟨_,List.getElem?_eq_getElem (by omega)⟩
   obtain ⟨x,hx⟩:=hne;have hxm:(⟨x,kb,0⟩:BA) ∈ bD kb 0 ks:=by
    refine List.mem_of_getElem? (i:=0) ?_
    rw [iY,hx]; simp
   have hxD:=f3 _ hxm;obtain ⟨_,_,_,⟨cs',hb'⟩,_⟩:=h.blk _ (List.mem_append_left [] (by simpa using hxD));refine .inr ⟨kb,0,f1,f2,Nat.lt_of_lt_of_le (hlt hb') hw.1,fun i hi=>?_⟩
   exact (g3 w2 hw).1 i l'[i] (List.getElem?_eq_getElem hi)
theorem WF (args:Array Value) (w:World):Sem.run prog (callFunc 100 args) w=.ok (.enter 100 args) w:=aV func100 (by kernel_rfl) (by kernel_rfl) args w
def GI (w:World) (y:Br) (x:Ending) (w':World):Prop:=∃ y':Br,x=.returned y'.h.val∧(∀ w2,Agr w.heap.size w' w2→y'.Lies w2)∧y'.ntr=y.ntr∧Below w.heap.size w w'
def zJ (w:World) (g:Nat) (h:Hd):World:=(((((w.setCell ⟨g,0,none⟩ (.int .i64 h.k)).setCell ⟨g,1,none⟩ (.int .i64 h.m)).setCell ⟨g,2,none⟩ (.int .i64 h.f)).setCell ⟨g,3,none⟩ (.int .i64 h.t)).setCell ⟨g,4,none⟩ (.slice h.np h.nn h.nc)).setCell ⟨g,5,none⟩ (.slice h.kp h.kn h.kc)
theorem Fz {w:World} {g k:Nat} {h:Hd} (hk:k≠g):(zJ w g h).heap[k]?=w.heap[k]?:=by
 unfold zJ;rw [Below.heap_setCell _ ⟨g,_,none⟩ _ k hk,Below.heap_setCell _ ⟨g,_,none⟩ _ k hk,Below.heap_setCell _ ⟨g,_,none⟩ _ k hk,Below.heap_setCell _ ⟨g,_,none⟩ _ k hk,Below.heap_setCell _ ⟨g,_,none⟩ _ k hk,Below.heap_setCell _ ⟨g,_,none⟩ _ k hk]
theorem iT {w:World} {g:Nat} {cs:Array Value} {T:TypeId} (h:w.heap[g]?=some (.cells cs T (0,0))) (j:Nat) (v:Value):(w.setCell ⟨g,j,none⟩ v).heap[g]?=some (.cells (cs.setIfInBounds j v) T (0,0)):=by
 have hl:=hlt h;have h2:w.heap[g]=Obj.cells cs T (0,0):=(Array.getElem?_eq_some_iff.1 h).2
 simp [World.setCell,hl,Array.getElem_modify,h2]
theorem JI {w:World} {g:Nat} {x0 x1 x2 x3 x4 x5:Value} {T:TypeId} (h:w.heap[g]?=some (.cells #[x0,x1,x2,x3,x4,x5] T (0,0))) (b:Hd) :
  (zJ w g b).heap[g]?=some (.cells #[.int .i64 b.k,.int .i64 b.m,.int .i64 b.f,.int .i64 b.t,.slice b.np b.nn b.nc,.slice b.kp b.kn b.kc] T (0,0)):=by
 unfold zJ;have h1:=iT h 0 (.int .i64 b.k);have h2:=iT h1 1 (.int .i64 b.m);have h3:=iT h2 2 (.int .i64 b.f);have h4:=iT h3 3 (.int .i64 b.t);have h5:=iT h4 4 (.slice b.np b.nn b.nc);have h6:=iT h5 5 (.slice b.kp b.kn b.kc)
 simpa using h6
set_option maxHeartbeats 8000000 in
theorem O4 (y:Br) (b o:Nat) (w:World) (hat:bP w b o y.h) (hb:b < w.heap.size) (hl:y.Lies w) (hf:y.Few) (hn:y.flatB.length≤10000000) :
  Calls prog 60 #[.pointer (some ⟨b,o,none⟩)] w (GI w y):=by
 have HE:Hid (∀ w0 wS:World,w0=w.alloc (.cells #[.int .i64 0,.int .i64 0,.int .i64 0,.int .i64 0,.slice none 0 0,.slice none 0 0] 26)→wS=w0.alloc (.cells #[.int .i64 y.h.k,.int .i64 y.h.m,.int .i64 y.h.f,.int .i64 y.h.t,.slice y.h.np y.h.nn y.h.nc,.slice y.h.kp y.h.kn y.h.kc] 26) →
   Calls prog 57 #[.pointer (some ⟨w.heap.size+1,0,none⟩),.func (.func 100) #[] #[]] wS fun x w'=>x=.returned (.tuple #[])∧Below (w.heap.size+1) w0 w'∧∃ y':Br,y'.ntr=y.ntr∧∀ w2,Agr (w.heap.size+1) w' w2→bP w2 (w.heap.size+1) 0 y'.h∧y'.Lies w2):=hid fun w0 wS h0 hS=>by
  have hz0:w0.heap.size=w.heap.size+1:=by rw [h0]; simp
  have hb0:Below w.heap.size w w0:=by rw [h0]; exact (Below.refl _ _).alloc (Nat.le_refl _) _
  have hbS:Below w0.heap.size w0 wS:=by rw [hS]; exact (Below.refl _ _).alloc (Nat.le_refl _) _
  have hSz:wS.heap.size=w0.heap.size+1:=by rw [hS]; simp
  have hSb:wS.heap[w.heap.size+1]?=some (.cells #[.int .i64 y.h.k,.int .i64 y.h.m,.int .i64 y.h.f,.int .i64 y.h.t,.slice y.h.np y.h.nn y.h.nc,.slice y.h.kp y.h.kn y.h.kc] 26 (0,0)):=by
   rw [hS,← hz0]; exact heap_alloc_new _ _
  have hl0:=hl.step _ hb0;have hin:∀ w' P,Below wS.heap.size wS w'→(∀ b,P b→wS.heap.size≤b)→OwI w0 ⟨y,w.heap.size+1,0⟩ [⟨y,w.heap.size+1,0⟩] P w'∧∀ e ∈ [(⟨y,w.heap.size+1,0⟩:BA)],e.y.Few:=by
   intro w' P hw hp;have hblk:w'.heap[w.heap.size+1]?=some (.cells #[.int .i64 y.h.k,.int .i64 y.h.m,.int .i64 y.h.f,.int .i64 y.h.t,.slice y.h.np y.h.nn y.h.nc,.slice y.h.kp y.h.kn y.h.kc] 26 (0,0)):=(hw.block _ (by omega)).trans hSb;have hc:=cell_of_heap hblk;refine ⟨⟨[],by simp,⟨hbS.trans (hw.mono (by omega)),fun b hb=>by have:=hp b hb; omega,fun e he=>?_,by simp,fun e he=>?_,fun e he=>by simp at he⟩⟩,fun e he=>by rw [List.mem_singleton.1 he]; exact hf⟩
   ·simp only [List.nil_append,List.mem_singleton] at he
    subst he;exact ⟨by simp only; omega,fun h=>by have:=hp _ h; simp only at this; omega,⟨0,by simp⟩,⟨_,hblk⟩,hl0⟩
   ·rw [List.mem_singleton.1 he]
    exact ⟨(hc 0).trans rfl,(hc 1).trans rfl,(hc 2).trans rfl,(hc 3).trans rfl,(hc 4).trans rfl,(hc 5).trans rfl⟩
  refine (xR BA.ad szB (fun e=>ig e.y)
   (fun st P w1=>OwI w0 ⟨y,w.heap.size+1,0⟩ st P w1∧∀ e ∈ st,e.y.Few)
   (fun e st P w1=>OwJ w0 ⟨y,w.heap.size+1,0⟩ e st P w1∧e.y.Few∧∀ e ∈ st,e.y.Few)
   ?_ 100 #[] WF ?_ ?_ ⟨y,w.heap.size+1,0⟩ wS hn hin).mono ?_
  ·rintro st P w1 w2 P' ⟨⟨D,h1,h2⟩,h3⟩ hg hp
   refine ⟨⟨D,h1,h2.move (hg.below (Nat.le_refl _) h2.bel h2.pl) (fun b o hb hP=>(hg.blk b (hlt hb) hP).trans hb) hp⟩,h3⟩
  ·rintro e st P w1 ⟨h1,h2⟩ hp
   have hfe:=h2 e (by simp);have hsm:e.y.h.nn≤10000000∧e.y.h.kn≤10000000:=by
    obtain ⟨D,hr,hO⟩:=h1;have hl:=(aO _ _).1 (hO.blk e (by simp)).2.2.2.2;have h3:=hl.1.1;have h4:=hl.2.1.1
    cases hy:e.y with
    | mk h ks =>
     rw [hy] at hfe h3 h4;simp only [Br.Few,Br.h,Br.ks] at hfe h3 h4;simp only [Br.h]
     omega
   refine (BF w0 _ e st P w1 h1 hp hsm).mono ?_
   rintro x w2 ⟨rfl,h3,h4⟩;exact ⟨rfl,⟨h3,hfe,fun z hz=>h2 z (by simp [hz])⟩,h4⟩
  ·rintro e st P w1 ⟨⟨h,kl,g1,g2,g3,g4,g5,g6⟩,g7,g8⟩
   refine ⟨e.b,e.o,h,kl,rfl,g1,g2,g3,g4,g6,fun z hz=>?_⟩
   rcases List.mem_append.1 hz with hz | hz
   ·have hk:=g5 z hz
    cases hy:e.y with
    | mk hh ks =>
     rw [hy] at g7 hk;simp only [Br.Few,fM,Br.ks] at g7 hk;exact g7.2.2 _ hk
   ·exact g8 z hz
  ·rintro x w' ⟨rfl,P,⟨D,h1,h2⟩,_⟩
   refine ⟨rfl,by rw [← hz0]; exact h2.bel,?_⟩
   obtain ⟨y',g1,g2⟩:=h2.copy y (w.heap.size+1) 0 (by simpa using h1);exact ⟨y',g1,fun w2 hw=>g2 w2 (by rw [hz0]; exact hw)⟩
 obtain ⟨p0,p1,p2,p3,p4,p5⟩:=hat
 have hb0:Below w.heap.size w (w.alloc (.cells #[.int .i64 0,.int .i64 0,.int .i64 0,.int .i64 0,.slice none 0 0,.slice none 0 0] 26)):=(Below.refl _ _).alloc (Nat.le_refl _) _;have HB0:=hid hb0;have hz1:(w.alloc (.cells #[.int .i64 0,.int .i64 0,.int .i64 0,.int .i64 0,.slice none 0 0,.slice none 0 0] 26)).heap.size=w.heap.size+1:=by simp
 have HB1:=hid (show (w.alloc (.cells #[.int .i64 0,.int .i64 0,.int .i64 0,.int .i64 0,.slice none 0 0,.slice none 0 0] 26)).heap[w.heap.size]?=some (.cells #[.int .i64 0,.int .i64 0,.int .i64 0,.int .i64 0,.slice none 0 0,.slice none 0 0] 26 (0,0)) from heap_alloc_new _ _);clear hl hf hn hb0
 go_enter func60,ntmps60
 go_wp2_with fail
 refine (HE.out _ _ rfl rfl).mono ?_
 rintro x w3 ⟨rfl,hb3,y',hy1,hy2⟩;have hs3:w.heap.size+1≤w3.heap.size:=by have:=hb3.size; omega
 have hblk:w3.heap[w.heap.size]?=some (.cells #[.int .i64 0,.int .i64 0,.int .i64 0,.int .i64 0,.slice none 0 0,.slice none 0 0] 26 (0,0)):=(hb3.block w.heap.size (by omega)).trans HB1.out;have hc:=cell_of_heap hblk;have x0:w3.cell? ⟨w.heap.size,0,none⟩=some (.int .i64 0):=(hc 0).trans rfl;have x1:w3.cell? ⟨w.heap.size,1,none⟩=some (.int .i64 0):=(hc 1).trans rfl;have x2:w3.cell? ⟨w.heap.size,2,none⟩=some (.int .i64 0):=(hc 2).trans rfl;have x3:w3.cell? ⟨w.heap.size,3,none⟩=some (.int .i64 0):=(hc 3).trans rfl;have x4:w3.cell? ⟨w.heap.size,4,none⟩=some (.slice none 0 0):=(hc 4).trans rfl;have x5:w3.cell? ⟨w.heap.size,5,none⟩=some (.slice none 0 0):=(hc 5).trans rfl;have fz:∀ j,w3.frozen? ⟨w.heap.size,j,none⟩=false:=fun j=>by simp [World.frozen?,hblk]
 have fz0:=fz 0;have fz1:=fz 1;have fz2:=fz 2;have fz3:=fz 3;have fz4:=fz 4;have fz5:=fz 5;obtain ⟨c0,c1,c2,c3,c4,c5⟩:=(hy2 w3 ⟨Nat.le_refl _,fun k _ _=>rfl⟩).1;simp only [Nat.zero_add] at c0 c1 c2 c3 c4 c5;have yD:Hid (∀ wf,wf=zJ w3 w.heap.size y'.h→(∃ hh:w.heap.size < wf.heap.size,True)∧(∀ w2,Agr w.heap.size wf w2→y'.Lies w2)∧Below w.heap.size w wf∧wf.heap[w.heap.size]?=some (.cells #[.int .i64 y'.h.k,.int .i64 y'.h.m,.int .i64 y'.h.f,.int .i64 y'.h.t,.slice y'.h.np y'.h.nn y'.h.nc,.slice y'.h.kp y'.h.kn y'.h.kc] 26 (0,0))):=hid fun wf hwf=>by
  have hsz:wf.heap.size=w3.heap.size:=by rw [hwf]; simp [zJ]
  refine ⟨⟨by omega,trivial⟩,fun w2 h2=>(hy2 w2 ⟨by have:=h2.1; omega,fun k hk hk3=>(h2.2 k (by omega) (by omega)).trans (by rw [hwf]; exact Fz (by omega))⟩).2,?_,by rw [hwf]; exact JI hblk _⟩
  rw [hwf];have hb:=HB0.out.trans (hb3.mono (by omega));unfold zJ;exact (((((hb.setCell (p:=⟨w.heap.size,0,none⟩) (Nat.le_refl _) _).setCell (p:=⟨w.heap.size,1,none⟩) (Nat.le_refl _) _).setCell (p:=⟨w.heap.size,2,none⟩) (Nat.le_refl _) _).setCell (p:=⟨w.heap.size,3,none⟩) (Nat.le_refl _) _).setCell (p:=⟨w.heap.size,4,none⟩) (Nat.le_refl _) _).setCell (p:=⟨w.heap.size,5,none⟩) (Nat.le_refl _) _
 have HY1:=hid hy1;have HU:Hid (zJ w3 w.heap.size y'.h=(((((w3.setCell ⟨w.heap.size,0,none⟩ (.int .i64 y'.h.k)).setCell ⟨w.heap.size,1,none⟩ (.int .i64 y'.h.m)).setCell ⟨w.heap.size,2,none⟩ (.int .i64 y'.h.f)).setCell ⟨w.heap.size,3,none⟩ (.int .i64 y'.h.t)).setCell ⟨w.heap.size,4,none⟩ (.slice y'.h.np y'.h.nn y'.h.nc)).setCell ⟨w.heap.size,5,none⟩ (.slice y'.h.kp y'.h.kn y'.h.kc)):=hid rfl;clear hb3 hy1 hy2 hblk hc fz HE HB0 HB1 p0 p1 p2 p3 p4 p5 hb hz1
 go_wp2_with fail
 rw [← HU.out];clear x0 x1 x2 x3 x4 x5 fz0 fz1 fz2 fz3 fz4 fz5 HU c0 c1 c2 c3 c4 c5;obtain ⟨wf,hwf⟩:∃ wf,wf=zJ w3 w.heap.size y'.h:=⟨_,rfl⟩
 obtain ⟨_,g2,g3,g4⟩:=yD.out wf hwf;rw [← hwf];have hc:=cell_of_heap g4;have y0:wf.cell? ⟨w.heap.size,0,none⟩=some (.int .i64 y'.h.k):=(hc 0).trans rfl;have y1:wf.cell? ⟨w.heap.size,1,none⟩=some (.int .i64 y'.h.m):=(hc 1).trans rfl;have y2:wf.cell? ⟨w.heap.size,2,none⟩=some (.int .i64 y'.h.f):=(hc 2).trans rfl;have y3:wf.cell? ⟨w.heap.size,3,none⟩=some (.int .i64 y'.h.t):=(hc 3).trans rfl;have y4:wf.cell? ⟨w.heap.size,4,none⟩=some (.slice y'.h.np y'.h.nn y'.h.nc):=(hc 4).trans rfl;have y5:wf.cell? ⟨w.heap.size,5,none⟩=some (.slice y'.h.kp y'.h.kn y'.h.kc):=(hc 5).trans rfl;clear hc hwf yD;refine bodyPost_ret (by simp [results,results60,go_sem,y0,y1,y2,y3,y4,y5,Result.andThen]; try rfl) rfl ?_
 exact ⟨y',rfl,g2,HY1.out,g3⟩
theorem vU:∀ (x:Br),x.Few→∀ y ∈ x.flatB,y.Few∧y.flatB.length≤x.flatB.length:=by
 refine Br.ind (P:=fun x=>x.Few→∀ y ∈ x.flatB,y.Few∧y.flatB.length≤x.flatB.length) ?_
 intro h ks ih hf y hy;rw [cZ] at hy
 rcases List.mem_cons.1 hy with rfl | hy
 ·exact ⟨hf,Nat.le_refl _⟩
 ·obtain ⟨k,hk,hyk⟩:=oN hy
  have hfk:k.Few:=by
   simp only [Br.Few,fM] at hf;exact hf.2.2 k hk
  obtain ⟨h1,h2⟩:=ih k hk hfk y hyk;refine ⟨h1,Nat.le_trans h2 ?_⟩
  rw [cZ (.mk h ks),List.length_cons]
  have:∀ l:List Br,k ∈ l→k.flatB.length≤(aB l).length:=fun l=>by
   induction l with
   | nil=>intro h; cases h
   | cons z r ihr =>
    intro hm;simp only [aB,List.length_append]
    rcases List.mem_cons.1 hm with rfl | hm
    ·omega
    ·have:=ihr hm; omega
  have:=this ks hk
  simp only [Br.ks] at *
  omega
def Fp (w:World) (N M:Nat) (y:Br):Prop:=∀ w2:World,M≤w2.heap.size→(∀ b,N≤b→b < M→w2.heap[b]?=w.heap[b]?)→y.Lies w2
structure AlS (w0:World) (ob:Nat) (sel:Int→Bool) (l:List Br) (P:Nat→Prop) (w:World) (q:Option Addr) (m c:Nat) (ys:List Br):Prop where
 bel:Below w0.heap.size w0 w
 pl:∀ b,P b→w0.heap.size≤b
 ob0:w0.heap.size≤ob∧¬ P ob
 out:w.heap[ob]?=some (.cells #[.slice q m c] 24 (0,0))
 row:w.ownsRow w0.heap.size 26 6 (.slice q m c) m (aT ys)
 nrow:∀ g,(Value.slice q m c).ownBlock=some g→¬ P g
 len:m=ys.length∧m≤l.length
 cps:∀ y ∈ ys,∃ N M,w0.heap.size≤N∧M≤w.heap.size∧(∀ b,N≤b→b < M→¬ P b∧b≠ob∧(Value.slice q m c).ownBlock≠some b)∧Fp w N M y
 tell:ys.map Br.ntr=(l.filter fun y=>sel y.h.k).map Br.ntr
theorem AlS.move {w0 w w':World} {ob:Nat} {sel:Int→Bool} {l:List Br} {P P':Nat→Prop} {q:Option Addr} {m c:Nat} {ys:List Br} (h:AlS w0 ob sel l P w q m c ys) (hb:Below w0.heap.size w0 w') (hs:w.heap.size≤w'.heap.size) (hm:∀ b,b < w.heap.size→¬ P b→w'.heap[b]?=w.heap[b]?) (hp:∀ b,P' b→P b∨w.heap.size≤b) :
  AlS w0 ob sel l P' w' q m c ys:=by
 have np:∀ b,b < w.heap.size→¬ P b→¬ P' b:=fun b h1 h2 h3=>by
  rcases hp b h3 with h4 | h4
  ·exact h2 h4
  ·omega
 have hol:=hlt h.out;refine ⟨hb,fun b hb'=>?_,⟨h.ob0.1,np _ hol h.ob0.2⟩,(hm _ hol h.ob0.2).trans h.out,?_,fun g hg=>?_,h.len,fun y hy=>?_,h.tell⟩
 ·rcases hp b hb' with h4 | h4
  ·exact h.pl b h4
  ·have:=h.bel.size; omega
 ·obtain ⟨hl,h0 | ⟨g,cc,cur,hv,hg,hh,hr⟩⟩:=h.row
  ·exact ⟨hl,.inl h0⟩
  ·exact ⟨hl,.inr ⟨g,cc,cur,hv,hg,(hm g (hlt hh) (h.nrow g (by rw [hv]; rfl))).trans hh,hr⟩⟩
 ·obtain ⟨hl,⟨h0,_⟩ | ⟨g',cc,cur,hv,hg',hh,hr⟩⟩:=h.row
  ·rw [h0] at hg; simp [Value.ownBlock] at hg
  ·have hgg:g'=g:=by rw [hv] at hg; simpa [Value.ownBlock] using hg
   subst hgg;exact np _ (hlt hh) (h.nrow _ hg)
 ·obtain ⟨N,M,h1,h2,h3,h4⟩:=h.cps y hy
  refine ⟨N,M,h1,Nat.le_trans h2 hs,fun b hb1 hb2=>⟨np b (by omega) (h3 b hb1 hb2).1,(h3 b hb1 hb2).2⟩,fun w2 g1 g2=>h4 w2 g1 fun b hb1 hb2=>(g2 b hb1 hb2).trans (hm b (by omega) (h3 b hb1 hb2).1)⟩
theorem AlS.skip {w0 w:World} {ob:Nat} {sel:Int→Bool} {l:List Br} {P:Nat→Prop} {q:Option Addr} {m c:Nat} {ys:List Br} (h:AlS w0 ob sel l P w q m c ys) {y:Br} (hy:sel y.h.k=false):AlS w0 ob sel (l++[y]) P w q m c ys :=
 ⟨h.bel,h.pl,h.ob0,h.out,h.row,h.nrow,⟨h.len.1,by have:=h.len.2; simp; omega⟩,h.cps,by rw [h.tell]; simp [hy]⟩
def putAt (w:World) (g o:Nat) (h:Hd):World:=(((((w.setCell ⟨g,o,none⟩ (.int .i64 h.k)).setCell ⟨g,o+1,none⟩ (.int .i64 h.m)).setCell ⟨g,o+2,none⟩ (.int .i64 h.f)).setCell ⟨g,o+3,none⟩ (.int .i64 h.t)).setCell ⟨g,o+4,none⟩ (.slice h.np h.nn h.nc)).setCell ⟨g,o+5,none⟩ (.slice h.kp h.kn h.kc)
theorem lm {w:World} {g o k:Nat} {h:Hd} (hk:k≠g):(putAt w g o h).heap[k]?=w.heap[k]?:=by
 unfold putAt;rw [Below.heap_setCell _ ⟨g,_,none⟩ _ k hk,Below.heap_setCell _ ⟨g,_,none⟩ _ k hk,Below.heap_setCell _ ⟨g,_,none⟩ _ k hk,Below.heap_setCell _ ⟨g,_,none⟩ _ k hk,Below.heap_setCell _ ⟨g,_,none⟩ _ k hk,Below.heap_setCell _ ⟨g,_,none⟩ _ k hk]
theorem EQ (w:World) (g o:Nat) (h:Hd):(putAt w g o h).heap.size=w.heap.size:=by simp [putAt]
theorem Qj (a z:List Value) (v0 v1 v2 v3 v4 v5 x0 x1 x2 x3 x4 x5:Value) (o:Nat) (ho:a.length=o) :
  ((((((a++[x0,x1,x2,x3,x4,x5]).set o v0).set (o+1) v1).set (o+2) v2).set (o+3) v3).set (o+4) v4).set (o+5) v5=a++[v0,v1,v2,v3,v4,v5]:=by
 subst ho
 simp [List.set_append_right]
theorem yc {w:World} {B g n c:Nat} {ks:List Br} {x0 x1 x2 x3 x4 x5:Value} (h:w.ownsRow B 26 6 (.slice (some ⟨g,0,none⟩) n c) n (aT ks++[x0,x1,x2,x3,x4,x5])) (y:Br):(putAt w g (ks.length * 6) y.h).ownsRow B 26 6 (.slice (some ⟨g,0,none⟩) n c) n (aT (ks++[y])):=by
 have h0:=(World.ownsRow.stored h (ks.length * 6) (.int .i64 y.h.k)).1;have h1:=(World.ownsRow.stored h0 (ks.length * 6+1) (.int .i64 y.h.m)).1;have h2:=(World.ownsRow.stored h1 (ks.length * 6+2) (.int .i64 y.h.f)).1;have h3:=(World.ownsRow.stored h2 (ks.length * 6+3) (.int .i64 y.h.t)).1;have h4:=(World.ownsRow.stored h3 (ks.length * 6+4) (.slice y.h.np y.h.nn y.h.nc)).1;have h5:=(World.ownsRow.stored h4 (ks.length * 6+5) (.slice y.h.kp y.h.kn y.h.kc)).1;rw [Qj _ [] _ _ _ _ _ _ _ _ _ _ _ _ _ (fP ks)] at h5;have e:aT (ks++[y])=aT ks++[.int .i64 y.h.k,.int .i64 y.h.m,.int .i64 y.h.f,.int .i64 y.h.t,.slice y.h.np y.h.nn y.h.nc,.slice y.h.kp y.h.kn y.h.kc]:=by simp [aT,gB]
 rw [e];exact h5
theorem Gz {w5 wX:World} {N:Nat} {y:Br} (hy:∀ w2,Agr N w5 w2→y.Lies w2) (hX:Below w5.heap.size w5 wX):Fp wX N w5.heap.size y:=fun w2 h1 h2 =>
 hy w2 ⟨h1,fun k hk1 hk2=>(h2 k hk1 hk2).trans (hX.block k hk2)⟩
theorem NZ {w w':World} {b E size n c g:Nat} {xs:List Value} (h:w.ownsRow b E size (.slice (some ⟨g,0,none⟩) n c) n xs) (he:w'.heap[g]?=w.heap[g]?):w'.ownsRow b E size (.slice (some ⟨g,0,none⟩) n c) n xs:=by
 obtain ⟨hl,⟨h0,_⟩ | ⟨g',cc,cur,hv,hg,hh,hr⟩⟩:=h
 ·cases h0
 ·have:g'=g:=by simp only [Value.slice.injEq,Option.some.injEq,Addr.mk.injEq] at hv; exact hv.1.1.symm
  subst this;exact ⟨hl,.inr ⟨g',cc,cur,hv,hg,he.trans hh,hr⟩⟩
theorem AlS.fin {w0 wc wX w6 wf:World} {ob:Nat} {sel:Int→Bool} {l:List Br} {P:Nat→Prop} {q:Option Addr} {m c g cap N M:Nat} {ys:List Br} {y y5:Br} (h:AlS w0 ob sel l P wc q m c ys) (hP:∀ b,P b→b < wc.heap.size) (hX:Below wc.heap.size wc wX) (hN:wc.heap.size≤N) (hM:M≤wX.heap.size) (hfp:Fp wX N M y5) (hgr:wX.grownBy w6 (Value.slice q m c).ownBlock)
  (hg:(Value.slice q m c).ownBlock=some g∨g=wX.heap.size) (hrow:w6.ownsRow w0.heap.size 26 6 (.slice (some ⟨g,0,none⟩) (m+1) cap) (m+1) (aT ys++[.int .i64 0,.int .i64 0,.int .i64 0,.int .i64 0,.slice none 0 0,.slice none 0 0]))
  (hwf:wf=(putAt w6 g (m * 6) y5.h).setCell ⟨ob,0,none⟩ (.slice (some ⟨g,0,none⟩) (m+1) cap)∨wf=putAt (w6.setCell ⟨ob,0,none⟩ (.slice (some ⟨g,0,none⟩) (m+1) cap)) g (m * 6) y5.h) (hnt:y5.ntr=y.ntr) (hy:sel y.h.k=true) :
  AlS w0 ob sel (l++[y]) P wf (some ⟨g,0,none⟩) (m+1) cap (ys++[y5])∧gU P wc wf:=by
 have hol:=hlt h.out;obtain ⟨hg0,gcs,hgb⟩:w0.heap.size≤g∧∃ cs,w6.heap[g]?=some (.cells cs 26 (0,0)):=by
  obtain ⟨_,⟨h0,_⟩ | ⟨g',cc,cur,hv,hgi,hh,hr⟩⟩:=hrow
  ·cases h0
  ·have:g'=g:=by simp only [Value.slice.injEq,Option.some.injEq,Addr.mk.injEq] at hv; exact hv.1.1.symm
   subst this;exact ⟨hgi,_,hh⟩
 have hold:∀ b,(Value.slice q m c).ownBlock=some b→b < wc.heap.size∧w0.heap.size≤b∧∃ cs,wc.heap[b]?=some (.cells cs 26 (0,0)):=fun b hb=>by
  obtain ⟨_,⟨h0,_⟩ | ⟨g',cc,cur,hv,hg',hh,hr⟩⟩:=h.row
  ·rw [h0] at hb; simp [Value.ownBlock] at hb
  ·have:g'=b:=by rw [hv] at hb; simpa [Value.ownBlock] using hb
   subst this;exact ⟨hlt hh,hg',_,hh⟩
 have OO:ob≠g:=by
  rcases hg with hg | hg
  ·rintro rfl
   obtain ⟨_,_,cs,hcs⟩:=hold ob hg;rw [h.out] at hcs; injection hcs with hcs; injection hcs with _ hcs _; exact absurd hcs (by decide)
  ·have:=hX.size; omega
 have VH:w6.heap[ob]?=some (.cells #[.slice q m c] 24 (0,0)):=by
  refine (hgr.block ob (Nat.lt_of_lt_of_le hol hX.size) (fun e=>?_)).trans ((hX.block ob hol).trans h.out)
  obtain ⟨_,_,cs,hcs⟩:=hold ob e.symm;rw [h.out] at hcs; injection hcs with hcs; injection hcs with _ hcs _; exact absurd hcs (by decide)
 have hsz:wf.heap.size=w6.heap.size:=by rcases hwf with rfl | rfl <;> simp [EQ]
 have hoth:∀ k,k≠ob→k≠g→wf.heap[k]?=w6.heap[k]?:=fun k h1 h2=>by
  rcases hwf with rfl | rfl
  ·exact (Below.heap_setCell _ ⟨ob,0,none⟩ _ k h1).trans (lm h2)
  ·exact (lm h2).trans (Below.heap_setCell _ ⟨ob,0,none⟩ _ k h1)
 have hout:wf.heap[ob]?=some (.cells #[.slice (some ⟨g,0,none⟩) (m+1) cap] 24 (0,0)):=by
  rcases hwf with rfl | rfl
  ·have:=iT ((lm (w:=w6) (o:=m * 6) (h:=y5.h) OO).trans VH) 0 (.slice (some ⟨g,0,none⟩) (m+1) cap)
   simpa using this
  ·refine (lm OO).trans ?_
   have:=iT VH 0 (.slice (some ⟨g,0,none⟩) (m+1) cap)
   simpa using this
 have hrow':wf.ownsRow w0.heap.size 26 6 (.slice (some ⟨g,0,none⟩) (m+1) cap) (m+1) (aT (ys++[y5])):=by
  rcases hwf with rfl | rfl
  ·refine NZ ?_ (Below.heap_setCell _ ⟨ob,0,none⟩ _ g (fun e=>OO e.symm))
   rw [h.len.1]
   have:=yc (by rw [h.len.1] at hrow; exact hrow) y5
   exact this
  ·rw [h.len.1]
   exact yc (NZ (by rw [h.len.1] at hrow; exact hrow) (Below.heap_setCell _ ⟨ob,0,none⟩ _ g (fun e=>OO e.symm))) y5
 have hb6:Below w0.heap.size w0 w6:=((h.bel.trans (hX.mono h.bel.size))).grown hgr (Nat.le_trans h.bel.size hX.size) (fun k hk=>(hold k hk).2.1);have QT:∀ w,Below w0.heap.size w0 w→Below w0.heap.size w0 (putAt w g (m * 6) y5.h):=fun w hb=>by
  unfold putAt;exact (((((hb.setCell (p:=⟨g,_,none⟩) hg0 _).setCell (p:=⟨g,_,none⟩) hg0 _).setCell (p:=⟨g,_,none⟩) hg0 _).setCell (p:=⟨g,_,none⟩) hg0 _).setCell (p:=⟨g,_,none⟩) hg0 _).setCell (p:=⟨g,_,none⟩) hg0 _
 have hbel:Below w0.heap.size w0 wf:=by
  rcases hwf with rfl | rfl
  ·exact (QT _ hb6).setCell (p:=⟨ob,0,none⟩) h.ob0.1 _
  ·exact QT _ (hb6.setCell (p:=⟨ob,0,none⟩) h.ob0.1 _)
 have hXs:=hX.size;have h6s:=hgr.size;have hkeep:∀ b,b < wX.heap.size→b≠ob→(Value.slice q m c).ownBlock≠some b→wf.heap[b]?=wX.heap[b]?:=fun b h1 h2 h3=>by
  refine (hoth b h2 ?_).trans (hgr.block b h1 fun e=>h3 e.symm)
  rcases hg with hg | hg
  ·rintro rfl; exact h3 hg
  ·omega
 refine ⟨?_,by omega,fun b hpb hbl=>(hkeep b (by omega) (fun e=>h.ob0.2 (e ▸ hpb)) (fun e=>h.nrow b e hpb)).trans (hX.block b hbl)⟩
 refine ⟨hbel,h.pl,h.ob0,hout,hrow',fun g' hg'=>?_,⟨by simp [h.len.1],by have:=h.len.2; simp; omega⟩,fun z hz=>?_,by rw [List.map_append,h.tell]; simp [hy,hnt]⟩
 ·simp only [Value.ownBlock,Option.some.injEq] at hg'
  subst hg'
  rcases hg with hg | hg
  ·exact h.nrow _ hg
  ·intro hp; have:=hP _ hp; omega
 ·rcases List.mem_append.1 hz with hz | hz
  ·obtain ⟨N',M',h1,h2,h3,h4⟩:=h.cps z hz
   refine ⟨N',M',h1,by omega,fun b hb1 hb2=>⟨(h3 b hb1 hb2).1,(h3 b hb1 hb2).2.1,fun e=>?_⟩,fun w2 g1 g2=>h4 w2 g1 fun b hb1 hb2=>(g2 b hb1 hb2).trans ((hkeep b (by omega) (h3 b hb1 hb2).2.1 (h3 b hb1 hb2).2.2).trans (hX.block b (by omega)))⟩
   simp only [Value.ownBlock,Option.some.injEq] at e;subst e
   rcases hg with hg | hg
   ·exact (h3 _ hb1 hb2).2.2 hg
   ·omega
  ·rw [List.mem_singleton.1 hz]
   refine ⟨N,M,Nat.le_trans h.bel.size hN,by omega,fun b hb1 hb2=>⟨fun hp=>by have:=hP b hp; omega,by omega,fun e=>?_⟩,fun w2 g1 g2=>hfp w2 g1 fun b hb1 hb2=>(g2 b hb1 hb2).trans (hkeep b (by omega) (by omega) (fun e=>by have:=(hold b e).1; omega))⟩
   simp only [Value.ownBlock,Option.some.injEq] at e;subst e
   rcases hg with hg | hg
   ·have:=(hold _ hg).1; omega
   ·omega
def AlI (w0:World) (ob:Nat) (sel:Int→Bool) (l:List Br) (P:Nat→Prop) (w:World):Prop:=∃ q m c ys,AlS w0 ob sel l P w q m c ys
theorem AlI.mk {w0 w:World} {ob:Nat} {sel:Int→Bool} {l:List Br} {P:Nat→Prop} {q:Option Addr} {m c:Nat} {ys:List Br} (h:AlS w0 ob sel l P w q m c ys):AlI w0 ob sel l P w:=⟨q,m,c,ys,h⟩
theorem gU.trans {P:Nat→Prop} {a b c:World} (h:gU P a b) (k:gU P b c):gU P a c:=⟨Nat.le_trans h.size k.size,fun x hp hx=>(k.blk x hp (Nat.lt_of_lt_of_le hx h.size)).trans (h.blk x hp hx)⟩
theorem xB:∀ u ∈ ([.int .i64 0,.int .i64 0,.int .i64 0,.int .i64 0,.slice none 0 0,.slice none 0 0]:List Value),u.oneCell'=true:=fun u hu=>by
 simp only [List.mem_cons,List.not_mem_nil,or_false] at hu
 rcases hu with rfl | rfl | rfl | rfl | rfl | rfl <;> rfl
theorem Gu {wa w5 w2:World} {o:Obj} (h:Agr (wa.heap.size+1) w5 w2):Agr ((wa.alloc o).drew).heap.size w5 w2:=by
 have:((wa.alloc o).drew).heap.size=wa.heap.size+1:=by show (wa.alloc o).heap.size=_; simp
 rw [this]; exact h
theorem eP {w:World} {B g n cap m:Nat} {ys:List Br} (h:w.ownsRow B 26 6 (.slice (some ⟨g,0,none⟩) n cap) n (aT ys++[.int .i64 0,.int .i64 0,.int .i64 0,.int .i64 0,.slice none 0 0,.slice none 0 0])) (hm:m=ys.length) (r:Nat) (u:Value) (hu:([.int .i64 0,.int .i64 0,.int .i64 0,.int .i64 0,.slice none 0 0,.slice none 0 0]:List Value)[r]?=some u):w.cell? ⟨g,m * 6+r,none⟩=some u:=by
 subst hm;refine kJ h _ _ ?_
 rw [List.getElem?_append_right (by rw [fP]; omega),fP,Nat.add_sub_cancel_left];exact hu
theorem BB {w0 wa wX w6:World} {ob:Nat} {sel:Int→Bool} {l:List Br} {P:Nat→Prop} {q:Option Addr} {m c:Nat} {ys:List Br} (h:AlS w0 ob sel l P wa q m c ys) (hX:Below wa.heap.size wa wX) (hgr:wX.grownBy w6 (Value.slice q m c).ownBlock):w6.heap[ob]?=some (.cells #[.slice q m c] 24 (0,0)):=by
 have hol:=hlt h.out;refine (hgr.block ob (Nat.lt_of_lt_of_le hol hX.size) (fun e=>?_)).trans ((hX.block ob hol).trans h.out)
 obtain ⟨_,⟨h0,_⟩ | ⟨g',cc,cur,hv,hg',hh,hr⟩⟩:=h.row
 ·rw [h0] at e; simp [Value.ownBlock] at e
 ·have:g'=ob:=by rw [hv] at e; simpa [Value.ownBlock] using e.symm
  subst this;rw [h.out] at hh; injection hh with hh; injection hh with _ hh _; exact absurd hh (by decide)
theorem row_ne {w:World} {B g n cap ob:Nat} {xs:List Value} {x:Value} (h:w.ownsRow B 26 6 (.slice (some ⟨g,0,none⟩) n cap) n xs) (ho:w.heap[ob]?=some (.cells #[x] 24 (0,0))):g≠ob:=by
 rintro rfl;obtain ⟨_,⟨h0,_⟩ | ⟨g',cc,cur,hv,hg',hh,hr⟩⟩:=h
 ·cases h0
 ·have:g'=g:=by simp only [Value.slice.injEq,Option.some.injEq,Addr.mk.injEq] at hv; exact hv.1.1.symm
  subst this;rw [ho] at hh; injection hh with hh; injection hh with _ hh _; exact absurd hh (by decide)
set_option maxHeartbeats 16000000 in
theorem Em (w0 w:World) (kb ob:Nat) (kp:Option Addr) (kn kc:Nat) (sel:Int→Bool) (l:List Br) (P:Nat→Prop) (e:BA) (hI:AlI w0 ob sel l P w) (hP:∀ b,P b→b < w.heap.size) (hg:e.Good w0) (hf:e.y.Few) (hfl:e.y.flatB.length≤10000000) (hll:l.length≤10000000)
  (hkb:kb < w0.heap.size) (hkc:w0.cell? ⟨kb,0,none⟩=some (.slice kp kn kc)) (h0:kn=0→∀ v,sel v=true)
  (yK:kn≠0→∀ (v:Int) (W:World),Below w0.heap.size w0 W→Calls prog 59 #[.slice kp kn kc,.int .i64 v] W fun x w'=>x=.returned (.bool (sel v))∧∃ d,w'=W.drewN d) :
  Calls prog 58 #[.pointer (some e.ad),.pointer (some ⟨kb,0,none⟩),.pointer (some ⟨ob,0,none⟩)] w fun x w'=>x=.returned (.tuple #[])∧AlI w0 ob sel (l++[e.y]) P w'∧gU P w w':=by
 obtain ⟨i26,yI,hz0,hz1,hz2⟩:∃ i26,prog.info? 26=some i26∧i26.zero=some (.agg #[.int .i64 0,.int .i64 0,.int .i64 0,.int .i64 0,.slice none 0 0,.slice none 0 0])∧i26.size=6∧i26.bytes=80:=by
  refine ⟨_,rfl,?_,?_,?_⟩ <;> kernel_rfl
 obtain ⟨q,m,c,ys,hA⟩:=hI;have HA:=hid hA;have HP:=hid hP;have HG:=hid hg;have HF:=hid hf;have qA:=hid hfl;have c0:w.cell? ⟨e.b,e.o,none⟩=some (.int .i64 e.y.h.k):=(hA.bel.cell (p:=⟨e.b,_,none⟩) hg.lt).trans hg.at_.1;have k0:w.cell? ⟨kb,0,none⟩=some (.slice kp kn kc):=(hA.bel.cell (p:=⟨kb,_,none⟩) hkb).trans hkc;have hfc:kn≠0→∀ d,Calls prog 59 #[.slice kp kn kc,.int .i64 e.y.h.k] (w.drewN d) fun x w'=>x=.returned (.bool (sel e.y.h.k))∧∃ m,w'=w.drewN m:=fun hk d=>by
  refine (yK hk e.y.h.k (w.drewN d) (below_drewN hA.bel d)).mono ?_
  rintro x w' ⟨h1,d',h2⟩;exact ⟨h1,d+d',by rw [h2,World.drewN_drewN]⟩
 have h0':=h0;obtain ⟨b,hb⟩:∃ b,b=sel e.y.h.k:=⟨_,rfl⟩
 rw [← hb] at hfc;have Gp:=hid hb;have hmm:m≤10000000:=by have:=hA.len.2; omega
 have HZ0:Hid (kn=0→b=true):=hid fun h=>by rw [hb]; exact h0 h _
 have hln:∀ (W:World) (q:Option Addr) (n c:Nat),(Builtin.len_ #[23] 3 #[.slice q n c]).run prog W=.ok (.int .i64 n) W:=fun W q n c=>rfl
 have acd:∀ (W:World) (q:Option Addr) (n c:Nat),(Builtin.len_ #[24] 3 #[.slice q n c]).run prog W=.ok (.int .i64 n) W:=fun W q n c=>rfl
 clear hA hP hg hf hfl hkb hkc h0 yK h0' hb hll;obtain ⟨y,eb,eo⟩:=e;dsimp only [BA.ad] at *
 generalize hyk:y.h.k=kk at c0 hfc
 go_enter func58,ntmps58
 go_upto_region 0 with fail
 go_cut [14] from 4 to 14 (fun s14 wx=>s14=.bool b∧Hid (Below w.heap.size w wx))
 case first =>
  by_cases hk0:kn=0
  ·have hbt:b=true:=HZ0.out hk0
   subst hbt;subst hk0;clear hfc
   go_quiet (fail)
   go_wp2_with fail
   go_meet
   exact ⟨rfl,hid (by first | exact below_drewN (Below.refl _ _) _ | exact below_drewN (below_drewN (Below.refl _ _) _) _)⟩
  ·have hfc':=hfc hk0
   have ht:((kn:Int) == 0)=false:=by simp; omega
   clear hfc hk0
   go_quiet (first | (with_reducible exact hfc' _))
   go_wp2_with fail
   go_meet
   exact ⟨rfl,hid (by first | exact below_drewN (Below.refl _ _) _ | exact below_drewN (below_drewN (Below.refl _ _) _) _)⟩
 case rest =>
  obtain ⟨rfl,HBc⟩:=hcut;obtain ⟨wa,hwa⟩:∃ wa,wa=wc:=⟨_,rfl⟩
  subst hwa;have Gq:=hid (HA.out.move (HA.out.bel.trans (HBc.out.mono HA.out.bel.size)) HBc.out.size (fun b hb _=>HBc.out.block b hb) (fun b h=>.inl h));have Xo:Hid (∀ b,P b→b < wa.heap.size):=hid fun b h=>Nat.lt_of_lt_of_le (HP.out b h) HBc.out.size
  have YK:Hid (gU P w wa):=hid ⟨HBc.out.size,fun b _ hb=>HBc.out.block b hb⟩;clear c0 k0 hfc HZ0 HA HP hyk
  cases b with
  | false =>
   have yD:=hid (Gq.out.skip (y:=y) Gp.out.symm)
   go_wp2_with fail
   go_end0
   exact ⟨rfl,⟨q,m,c,ys,yD.out⟩,YK.out⟩
  | true =>
   have x0:wa.drew.cell? ⟨ob,0,none⟩=some (.slice q m c):=by
    have hc:=cell_of_heap Gq.out.out;exact (hc 0).trans rfl
   have xw:wa.cell? ⟨ob,0,none⟩=some (.slice q m c):=x0;have hob:=hlt Gq.out.out;have hab:=Gq.out.bel.size;have VI:Hid (∀ W,Below wa.heap.size wa W→Calls prog 60 #[.pointer (some ⟨eb,eo,none⟩)] W (GI W y)):=hid fun W hW=>by
    have hw:=Gq.out.bel.trans (hW.mono hab);have hG:=HG.out.step hw;exact O4 y eb eo W hG.at_ hG.lt hG.lies HF.out qA.out
   have Qu:Hid (Below wa.heap.size wa wa.drew):=hid (Below.refl _ _).drew;have YL:Hid (Below wa.heap.size wa (wa.alloc (.cells #[.int .i64 0,.int .i64 0,.int .i64 0,.int .i64 0,.slice none 0 0,.slice none 0 0] 26)).drew):=hid ((Below.refl _ _).alloc (Nat.le_refl _) _).drew;have zV:Hid (m=ys.length):=hid Gq.out.len.1;have r1:(0:Int)≤(m:Int):=by omega
   have r2:(m:Int) < (m:Int)+1:=by omega
   go_wp2_with fail
   go_region_law (first
    | (go_simp; go_at_call 60; (with_reducible refine Calls.mono (VI.out _ YL.out) ?_); rintro x w5 ⟨y5,rfl,hfp,hnt,hb5⟩; have VJ:=hid hnt; have VK:=hid hfp; have mg:=hid (YL.out.trans (hb5.mono YL.out.size)); have jP:=hid (row_step Gq.out.row mg.out); have hw5:wa.heap.size≤w5.heap.size:=mg.out.size; have ho5:ob < w5.heap.size:=Nat.lt_of_lt_of_le hob hw5; have x5:w5.cell? ⟨ob,0,none⟩=some (.slice q m c):=(mg.out.cell (p:=⟨ob,0,none⟩) hob).trans x0; simp only [Hd.val]; have VL:=hid ((hb5.block wa.heap.size (by show wa.heap.size < (wa.alloc (.cells #[.int .i64 0,.int .i64 0,.int .i64 0,.int .i64 0,.slice none 0 0,.slice none 0 0] 26)).heap.size; simp)).trans (heap_alloc_new wa (.cells #[.int .i64 0,.int .i64 0,.int .i64 0,.int .i64 0,.slice none 0 0,.slice none 0 0] 26))); clear hfp hnt hb5)
    | (go_simp; go_at_call 60; (with_reducible refine Calls.mono (VI.out _ Qu.out) ?_); rintro x w5 ⟨y5,rfl,hfp,hnt,hb5⟩; have VJ:=hid hnt; have VK:=hid hfp; have mg:=hid (Qu.out.trans (hb5.mono Qu.out.size)); have jP:=hid (row_step Gq.out.row mg.out); have hw5:wa.heap.size≤w5.heap.size:=mg.out.size; have ho5:ob < w5.heap.size:=Nat.lt_of_lt_of_le hob hw5; have x5:w5.cell? ⟨ob,0,none⟩=some (.slice q m c):=(mg.out.cell (p:=⟨ob,0,none⟩) hob).trans x0; simp only [Hd.val]; clear hfp hnt hb5)
    | (have hx:=VL.out; clear hx; refine step_append_lies _ (by rfl) _ _ _ (by rfl) w0.heap.size 26 i26 _ 6 80 underlying24 yI hz0 hz1 hz2 rfl (by decide) _ _ _ (by rfl) jP.out ⟨wa.heap.size,0,none⟩ 1 1 [.int .i64 0,.int .i64 0,.int .i64 0,.int .i64 0,.slice none 0 0,.slice none 0 0] (by rfl) (by rfl) (World.news_of_block (cs:=#[.int .i64 0,.int .i64 0,.int .i64 0,.int .i64 0,.slice none 0 0,.slice none 0 0]) (t:=26) (fr:=(0,0)) VL.out) xB (by omega) (by unfold maxLen; omega) (by omega) (by omega) w5.heap.size rfl ?_; intro gg cap w6 hown hgrow hat OB; have Sl:=hid (Gq.out.fin (wX:=w5) (N:=wa.heap.size+1) (M:=w5.heap.size) (y:=y) Xo.out mg.out (by omega) (Nat.le_refl _) (Gz (fun w2 h2=>VK.out w2 (Gu h2)) (Below.refl _ _)) hgrow hat hown (.inl rfl) VJ.out Gp.out.symm); have HF2:=hid (Gq.out.fin (wX:=w5) (N:=wa.heap.size+1) (M:=w5.heap.size) (y:=y) Xo.out mg.out (by omega) (Nat.le_refl _) (Gz (fun w2 h2=>VK.out w2 (Gu h2)) (Below.refl _ _)) hgrow hat hown (.inr rfl) VJ.out Gp.out.symm); simp only [putAt] at Sl HF2; have KQ:=BB Gq.out mg.out hgrow; have SG:gg≠ob:=row_ne hown KQ; have hgne':ob≠gg:=fun e=>SG e.symm; have hc6:=cell_of_heap KQ; have x6:w6.cell? ⟨ob,0,none⟩=some (.slice q m c):=(hc6 0).trans rfl; have f6:w6.frozen? ⟨ob,0,none⟩=false:=(by simp [World.frozen?,KQ]); have z0:w6.cell? ⟨gg,m * 6,none⟩=some (.int .i64 0):=eP hown zV.out 0 _ rfl; have z1:=eP hown zV.out 1 _ rfl; have z2:=eP hown zV.out 2 _ rfl; have z3:=eP hown zV.out 3 _ rfl; have z4:=eP hown zV.out 4 _ rfl; have z5:=eP hown zV.out 5 _ rfl; have g0:=World.ownsRow.frozenAt hown (m * 6); have g1:=World.ownsRow.frozenAt hown (m * 6+1); have g2:=World.ownsRow.frozenAt hown (m * 6+2); have g3:=World.ownsRow.frozenAt hown (m * 6+3); have g4:=World.ownsRow.frozenAt hown (m * 6+4); have g5:=World.ownsRow.frozenAt hown (m * 6+5); clear hown hgrow hat KQ hc6)
    | (refine step_append_lies _ (by rfl) _ _ _ (by rfl) w0.heap.size 26 i26 _ 6 80 underlying24 yI hz0 hz1 hz2 rfl (by decide) _ _ _ (by rfl) (World.ownsRow.alloc jP.out _) ⟨w5.heap.size,0,none⟩ 1 1 [.int .i64 0,.int .i64 0,.int .i64 0,.int .i64 0,.slice none 0 0,.slice none 0 0] (by rfl) (by rfl) (World.news_of_block (cs:=#[.int .i64 0,.int .i64 0,.int .i64 0,.int .i64 0,.slice none 0 0,.slice none 0 0]) (t:=26) (fr:=(0,0)) (heap_alloc_new _ _)) xB (by omega) (by unfold maxLen; omega) (by omega) (by simp; omega) (w5.heap.size+1) (by simp) ?_; intro gg cap w6 hown hgrow hat OB; have Sl:=hid (Gq.out.fin (wX:=w5.alloc (.cells #[.int .i64 0,.int .i64 0,.int .i64 0,.int .i64 0,.slice none 0 0,.slice none 0 0] 26)) (N:=wa.heap.size) (M:=w5.heap.size) (y:=y) Xo.out (mg.out.trans (((Below.refl _ _).alloc (Nat.le_refl _) _).mono hw5)) (Nat.le_refl _) (by simp) (Gz VK.out ((Below.refl _ _).alloc (Nat.le_refl _) _)) hgrow (by simpa using hat) hown (.inl rfl) VJ.out Gp.out.symm); have HF2:=hid (Gq.out.fin (wX:=w5.alloc (.cells #[.int .i64 0,.int .i64 0,.int .i64 0,.int .i64 0,.slice none 0 0,.slice none 0 0] 26)) (N:=wa.heap.size) (M:=w5.heap.size) (y:=y) Xo.out (mg.out.trans (((Below.refl _ _).alloc (Nat.le_refl _) _).mono hw5)) (Nat.le_refl _) (by simp) (Gz VK.out ((Below.refl _ _).alloc (Nat.le_refl _) _)) hgrow (by simpa using hat) hown (.inr rfl) VJ.out Gp.out.symm); simp only [putAt] at Sl HF2; have KQ:=BB Gq.out (mg.out.trans (((Below.refl _ _).alloc (Nat.le_refl _) _).mono hw5)) hgrow; have SG:gg≠ob:=row_ne hown KQ; have hgne':ob≠gg:=fun e=>SG e.symm; have hc6:=cell_of_heap KQ; have x6:w6.cell? ⟨ob,0,none⟩=some (.slice q m c):=(hc6 0).trans rfl; have f6:w6.frozen? ⟨ob,0,none⟩=false:=(by simp [World.frozen?,KQ]); have z0:w6.cell? ⟨gg,m * 6,none⟩=some (.int .i64 0):=eP hown zV.out 0 _ rfl; have z1:=eP hown zV.out 1 _ rfl; have z2:=eP hown zV.out 2 _ rfl; have z3:=eP hown zV.out 3 _ rfl; have z4:=eP hown zV.out 4 _ rfl; have z5:=eP hown zV.out 5 _ rfl; have g0:=World.ownsRow.frozenAt hown (m * 6); have g1:=World.ownsRow.frozenAt hown (m * 6+1); have g2:=World.ownsRow.frozenAt hown (m * 6+2); have g3:=World.ownsRow.frozenAt hown (m * 6+3); have g4:=World.ownsRow.frozenAt hown (m * 6+4); have g5:=World.ownsRow.frozenAt hown (m * 6+5); clear hown hgrow hat KQ hc6))
   all_goals (
    go_wp2_with fail
    go_end0
    first
     | with_reducible exact ⟨rfl,AlI.mk Sl.out.1,YK.out.trans Sl.out.2⟩
     | with_reducible exact ⟨rfl,AlI.mk HF2.out.1,YK.out.trans HF2.out.2⟩
     | (trace_state; fail))
theorem Zm (args:Array Value) (w:World):Sem.run prog (callFunc 58 args) w=.ok (.enter 58 args) w:=aV func58 (by kernel_rfl) (by kernel_rfl) args w
def Gw (w:World) (nd:Br) (sel:Int→Bool) (x:Ending) (w':World):Prop :=
 ∃ (q:Option Addr) (m c:Nat) (ys:List Br),x=.returned (.slice q m c)∧w'.ownsRow w.heap.size 26 6 (.slice q m c) m (aT ys)∧m=ys.length∧(∀ y ∈ ys,∀ w2,Agr w.heap.size w' w2→y.Lies w2)∧ys.map Br.ntr=(nd.flatB.filter fun y=>sel y.h.k).map Br.ntr∧Below w.heap.size w w'
set_option maxHeartbeats 8000000 in
theorem PU (nd:Br) (w:World) (hl:nd.Lies w) (hf:nd.Few) (hn:nd.flatB.length≤10000000) (kp:Option Addr) (kn kc:Nat) (sel:Int→Bool) (h0:kn=0→∀ v,sel v=true)
  (yK:kn≠0→∀ (v:Int) (W:World),Below w.heap.size w W→Calls prog 59 #[.slice kp kn kc,.int .i64 v] W fun x w'=>x=.returned (.bool (sel v))∧∃ d,w'=W.drewN d) :
  Calls prog 24 #[nd.h.val,.slice kp kn kc] w (Gw w nd sel):=by
 have HE:Hid (∀ B1 B2 wS:World,B1=w.alloc (.cells #[.int .i64 nd.h.k,.int .i64 nd.h.m,.int .i64 nd.h.f,.int .i64 nd.h.t,.slice nd.h.np nd.h.nn nd.h.nc,.slice nd.h.kp nd.h.kn nd.h.kc] 26)→B2=B1.alloc (.cells #[.slice kp kn kc] 23)→wS=B2.alloc (.cells #[.slice none 0 0] 24) →
   Calls prog 57 #[.pointer (some ⟨w.heap.size,0,none⟩),.func (.func 58) #[] #[.pointer (some ⟨w.heap.size+1,0,none⟩),.pointer (some ⟨w.heap.size+1+1,0,none⟩)]] wS fun x w'=>x=.returned (.tuple #[])∧∃ (q:Option Addr) (m c:Nat) (ys:List Br),w'.cell? ⟨w.heap.size+1+1,0,none⟩=some (.slice q m c) ∧
    w'.ownsRow w.heap.size 26 6 (.slice q m c) m (aT ys)∧m=ys.length∧(∀ y ∈ ys,∀ w2,Agr w.heap.size w' w2→y.Lies w2)∧ys.map Br.ntr=(nd.flatB.filter fun y=>sel y.h.k).map Br.ntr∧Below w.heap.size w w'):=hid fun B1 B2 wS hB1 hB2 hS=>by
  have hg:=kF nd w hl 26;rw [← hB1] at hg;have hb1:Below w.heap.size w B1:=by rw [hB1]; exact (Below.refl _ _).alloc (Nat.le_refl _) _
  have hz1:B1.heap.size=w.heap.size+1:=by rw [hB1]; simp
  have hb2:Below B1.heap.size B1 B2:=by rw [hB2]; exact (Below.refl _ _).alloc (Nat.le_refl _) _
  have hz2:B2.heap.size=w.heap.size+1+1:=by rw [hB2]; simp [hz1]
  have hk2:B2.heap[w.heap.size+1]?=some (.cells #[.slice kp kn kc] 23 (0,0)):=by rw [hB2,← hz1]; exact heap_alloc_new _ _
  have hbS:Below B2.heap.size B2 wS:=by rw [hS]; exact (Below.refl _ _).alloc (Nat.le_refl _) _
  have hzS:wS.heap.size=w.heap.size+1+1+1:=by rw [hS]; simp [hz2]
  have QG:wS.heap[w.heap.size+1+1]?=some (.cells #[.slice none 0 0] 24 (0,0)):=by rw [hS,← hz2]; exact heap_alloc_new _ _
  have SH:Below w.heap.size w B2:=hb1.trans (hb2.mono (by omega));have hg2:BA.Good ⟨nd,w.heap.size,0⟩ B2:=hg.step hb2;have hkc:B2.cell? ⟨w.heap.size+1,0,none⟩=some (.slice kp kn kc):=by have hc:=cell_of_heap hk2; exact (hc 0).trans rfl
  refine (kD ⟨nd,w.heap.size,0⟩ B2 wS hg2 hn 58 #[.pointer (some ⟨w.heap.size+1,0,none⟩),.pointer (some ⟨w.heap.size+1+1,0,none⟩)] Zm
   (fun l P w1=>AlI B2 (w.heap.size+1+1) sel l P w1) ?_ ?_ ?_ ?_).mono ?_
  ·rintro l P w1 w2 P' ⟨q,m,c,ys,h1⟩ UO hp
   exact ⟨q,m,c,ys,h1.move (UO.below (Nat.le_refl _) h1.bel h1.pl) UO.size (fun b hb hP=>UO.blk b hb hP) hp⟩
  ·rintro l P w1 ⟨q,m,c,ys,h1⟩
   exact h1.bel
  ·rintro l e r P w1 hA hP hge hle
   have hmem:e.y ∈ nd.flatB:=by rw [← hle]; simp
   obtain ⟨hfe,hfl⟩:=vU nd hf e.y hmem;have hll:l.length≤10000000:=by have:=congrArg List.length hle; simp only [List.length_append,List.length_cons] at this; omega
   exact Em B2 w1 (w.heap.size+1) (w.heap.size+1+1) kp kn kc sel l P e hA hP hge hfe (by omega) hll (by omega) hkc h0 (fun hk v W hW=>yK hk v W (SH.trans (hW.mono SH.size)))
  ·intro w' P hw hp
   refine ⟨none,0,0,[],⟨hbS.trans (hw.mono (by omega)),fun b hb=>by have:=hp b hb; omega,⟨by omega,fun h=>by have:=hp _ h; omega⟩,(hw.block _ (by omega)).trans QG,World.ownsRow_nil _ _ _ _,fun g hg=>by simp [Value.ownBlock] at hg,⟨rfl,by simp⟩,fun y hy=>by simp at hy,rfl⟩⟩
  ·rintro x w' ⟨rfl,P,q,m,c,ys,h1⟩
   have hc:=cell_of_heap h1.out;refine ⟨rfl,q,m,c,ys,(hc 0).trans rfl,oG h1.row (by omega),h1.len.1,fun y hy w2 hw2=>?_,h1.tell,SH.trans (h1.bel.mono (by omega))⟩
   obtain ⟨N,M,g1,g2,_,g4⟩:=h1.cps y hy;exact g4 w2 (Nat.le_trans g2 hw2.1) fun b hb1 hb2=>hw2.2 b (by omega) (by omega)
 have hmf:∀ (fn:Fn) (first cap:Array Value) (w:World),(Instr.makeFunc fn first cap).run prog w=.ok (.func fn first cap) w:=fun _ _ _ _=>rfl
 clear hl hf hn h0 yK
 go_enter func24,ntmps24
 go_wp2_with fail
 refine (HE.out _ _ _ rfl rfl rfl).mono ?_
 rintro x w3 ⟨rfl,q,m,c,ys,hc,h1,h2,h3,h4,h5⟩;have H1:=hid h1;have H2:=hid h2;have H3:=hid h3;have H4:=hid h4;have H5:=hid h5;clear h1 h2 h3 h4 h5 HE
 go_wp2_with fail
 go_ret
 exact ⟨q,m,c,ys,rfl,H1.out,H2.out,H3.out,H4.out,H5.out⟩
def PR (o:Nat × Br):List Value:=.int .i64 (o.1:Nat) :: gB o.2.h
def Nb (l:List (Nat × Br)):List Value:=l.flatMap PR
structure PN where
 pc:PC
 nd:Br
def isOpen (y:Br):Bool:=[(13:Int)].contains y.h.k
def tells (qs:List PN):Nat→List (Nat × Ntr)
 | 0=>[]
 | k+1=>tells qs k++(match qs[k]? with | some q=>((q.nd.flatB.filter isOpen).map fun y=>(k,y.ntr)) | none=>[])
def acQ (w:World) (v:Value) (os:List (Nat × Br)):Prop:=∀ o ∈ os,∃ N M,M≤w.heap.size∧(∀ b,N≤b→b < M→v.ownBlock≠some b)∧Fp w N M o.2
def Uf (W:World) (qs:List PN) (e:Ending) (W':World):Prop:=∃ (q:Option Addr) (n c:Nat) (os:List (Nat × Br)),e=.returned (.slice q n c)∧W'.ownsRow W.heap.size 81 7 (.slice q n c) n (Nb os)∧n=os.length∧(∀ o ∈ os,o.2.Lies W')∧os.map (fun o=>(o.1,o.2.ntr))=tells qs qs.length∧Below W.heap.size W W'
end Go.Proofs.YtmpmfamiegpmgaaGreatDoor
