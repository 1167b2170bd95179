/-
  slices.Clone of numbers and of nodes, walked.; A node's copy in memory of its own (looks.go's own): what is kept while it is made.; A node's copy in memory of its own: one node more is copied.; A node's copy in memory of its own: the function that is handed each node.; A node's copy in memory of its own (looks.go's own), walked.; The nodes of some kinds (looks.go's All): what is kept while they are gathered.; The nodes of some kinds (looks.go's All): one node more.; The nodes of some kinds (looks.go's All): the function that is handed each node.; The nodes of some kinds (looks.go's All), walked.; unit's Opens: all opens, in order.
-/
import Derived.Test.YtmpmfamiegpmgaaGreatDoorGF
import Derived.OwnWalk
import Derived.Laws.AppendOwn
import Derived.Test.YtmpmfamiegpmgaaGreatDoorGU
import Derived.BigRegion
import Derived.Deep.RegionWith
import Derived.Deep.AppendLies
import Derived.Deep.RegionLaw
import Derived.Deep.CutRange
import Derived.BigQuiet
import Derived.Test.YtmpmfamiegpmgaaGreatDoorGHD
import Derived.Deep.Cut
namespace Go.Proofs.YtmpmfamiegpmgaaGreatDoor
open Tryz
open Go.Lib (hid)
open Go.RowKit
set_option maxRecDepth 20000
set_option linter.unusedVariables false
set_option linter.unusedSimpArgs false
def iT (h:Hd):List Value:=[.int .i64 h.k,.int .i64 h.m,.int .i64 h.f,.int .i64 h.t,.slice h.np h.nn h.nc,.slice h.kp h.kn h.kc]
def bK (ks:List Br):List Value:=ks.flatMap fun b=>iT b.h
theorem oL (ks:List Br):(bK ks).length=ks.length * 6:=by
 induction ks with
 | nil=>rfl
 | cons v r ih=>simp only [bK,List.flatMap_cons,List.length_append] at *; rw [ih]; simp [iT]; omega
theorem sO (ks:List Br) (j:Nat) (v:Br) (h:ks[j]?=some v) (r:Nat) (hr:r < 6):(bK ks)[j * 6+r]?=(iT v.h)[r]?:=by
 induction ks generalizing j with
 | nil=>simp at h
 | cons x t ih =>
  have hx:(iT x.h).length=6:=rfl;simp only [bK,List.flatMap_cons] at *
  cases j with
  | zero =>
   simp only [List.getElem?_cons_zero,Option.some.injEq] at h;subst h;rw [Nat.zero_mul,Nat.zero_add,List.getElem?_append_left (by omega)]
  | succ j =>
   simp only [List.getElem?_cons_succ] at h;rw [List.getElem?_append_right (by omega),show (j+1) * 6+r - (iT x.h).length=j * 6+r by omega];exact ih j h
theorem zV (ks:List Br):∀ u ∈ bK ks,u.oneCell'=true:=fun u hu=>by
 obtain ⟨b,_,h⟩:=List.mem_flatMap.1 hu;simp only [iT,List.mem_cons,List.not_mem_nil,or_false] at h
 rcases h with rfl | rfl | rfl | rfl | rfl | rfl <;> rfl
theorem I4 {w:World} {b off:Nat} {ks:List Br} (hat:L8 w b off ks):∀ j u,(bK ks)[j]?=some u→w.cell? ((⟨b,off,none⟩:Addr).add j)=some u:=fun j u hu=>by
 have hj:j < ks.length * 6:=by rw [← oL]; exact (List.getElem?_eq_some_iff.1 hu).1
 have hi:j / 6 < ks.length:=by omega
 have hg:=sO ks (j / 6) ks[j / 6] (List.getElem?_eq_getElem hi) (j % 6) (Nat.mod_lt _ (by omega));rw [show j / 6 * 6+j % 6=j by omega,hu] at hg;have ha:((⟨b,off,none⟩:Addr).add j)=⟨b,off+j,none⟩:=by unfold Addr.add; split <;> simp_all
 rw [ha];obtain ⟨c0,c1,c2,c3,c4,c5⟩:=hat (j / 6) hi;have h6:j % 6 < 6:=Nat.mod_lt _ (by omega);have hjj:off+j=off+j / 6 * 6+j % 6:=by omega
 rw [hjj];generalize j % 6=r at *
 match r,h6,hg with
 | 0,_,hg=>exact c0.trans hg.symm
 | 1,_,hg=>exact c1.trans hg.symm
 | 2,_,hg=>exact c2.trans hg.symm
 | 3,_,hg=>exact c3.trans hg.symm
 | 4,_,hg=>exact c4.trans hg.symm
 | 5,_,hg=>exact c5.trans hg.symm
theorem J9 {w:World} {b off:Nat} {l:List Int} (hat:AtV mkI w b off l):∀ j u,(l.map mkI)[j]?=some u→w.cell? ((⟨b,off,none⟩:Addr).add j)=some u:=fun j u hu=>by
 have ha:((⟨b,off,none⟩:Addr).add j)=⟨b,off+j,none⟩:=by unfold Addr.add; split <;> simp_all
 rw [ha];have hj:j < l.length:=by have:=(List.getElem?_eq_some_iff.1 hu).1; simpa using this
 rw [hat j hj];rw [List.getElem?_map,List.getElem?_eq_getElem hj] at hu;exact hu
theorem NU (l:List Int):∀ u ∈ l.map mkI,u.oneCell'=true:=fun u hu=>by
 obtain ⟨x,_,rfl⟩:=List.mem_map.1 hu; rfl
set_option maxHeartbeats 4000000 in
theorem FK (w:World) (p:Option Addr) (n c:Nat) (ks:List Br) (h:jM w p n c ks) (hn:n≤10000000) :
  Calls prog 102 #[.slice p n c] w fun e w'=>∃ q d,e=.returned (.slice q n d)∧Below w.heap.size w w'∧w'.ownsRow w.heap.size 26 6 (.slice q n d) n (bK ks):=by
 obtain ⟨i26,Ic,hz0,hz1,hz2⟩:∃ i26,prog.info? 26=some i26∧i26.zero=some (.agg #[.int .i64 0,.int .i64 0,.int .i64 0,.int .i64 0,.slice none 0 0,.slice none 0 0])∧i26.size=6∧i26.bytes=80:=by
  refine ⟨_,rfl,?_,?_,?_⟩ <;> kernel_rfl
 have HK:=hid h;clear h
 cases p with
 | none =>
  have hn0:n=0∧ks=[]:=by
   obtain ⟨h1,h0 | ⟨b,off,hp,_⟩⟩:=HK.out
   ·exact ⟨h0,List.length_eq_zero_iff.1 (by omega)⟩
   ·cases hp
  obtain ⟨rfl,rfl⟩:=hn0;have he:∀ w:World,(binOp .eql 24 (.slice none 0 c) (.slice none 0 0)).run prog w=.ok (.bool true) w:=fun _=>rfl
  clear HK
  go_enter func102,ntmps102
  go_wp2_with fail
  go_ret
  exact ⟨none,0,rfl,Below.refl _ _,World.ownsRow_nil _ _ _ _⟩
 | some ad =>
  have HN:Hid (∀ j u,(bK ks)[j]?=some u→w.cell? (ad.add j)=some u):=hid (by
   obtain ⟨h1,h0 | ⟨b,off,hp,_,_,hat⟩⟩:=HK.out
   ·obtain rfl:ks=[]:=List.length_eq_zero_iff.1 (by omega)
    intro j u hu; simp [bK] at hu
   ·cases hp; exact I4 hat)
  have yz:Hid (ks.length=n):=hid HK.out.1.symm;have AZ:Hid (∀ (j:Nat) (u:Value),(bK ks)[j]?=some u→ad.block < w.heap.size):=hid (by
   obtain ⟨h1,h0 | ⟨b,off,hp,_,hb,hat⟩⟩:=HK.out
   ·obtain rfl:ks=[]:=List.length_eq_zero_iff.1 (by omega)
    intro j u hu; simp [bK] at hu
   ·cases hp; intro j u _; exact hb)
  have WV:Hid ((w.alloc (.cells #[] 26)).ownsRow w.heap.size 26 6 (.slice (some ⟨w.heap.size,0,none⟩) 0 0) 0 []):=hid (World.ownsRow_lit w #[] 0 (Nat.le_refl _) (by unfold maxLen; omega) rfl);have HB0:=hid ((Below.refl w.heap.size w).alloc (Nat.le_refl _) (.cells #[] 26));have TN:Hid (∀ j u,(bK ks)[j]?=some u→(w.alloc (.cells #[] 26)).cell? (ad.add j)=some u):=hid fun j u hu=>by
   have h1:=AZ.out j u hu;have h2:=HN.out j u hu;have h3:(ad.add j).block < w.heap.size:=by unfold Addr.add; split <;> exact h1
   exact (HB0.out.cell h3).trans h2
  have hL:(bK ks).length=n * 6:=by rw [oL,yz.out]
  have ZZ:=hid hL;clear HK HN AZ hL;have he:∀ w:World,(binOp .eql 24 (.slice (some ad) n c) (.slice none 0 0)).run prog w=.ok (.bool false) w:=fun _=>rfl
  go_enter func102,ntmps102
  go_wp2_with (at_builtin; refine wpList_append_own _ rfl _ _ 24 rfl w.heap.size 26 i26 _ 6 80 underlying24 Ic hz0 hz1 hz2 rfl (by decide) _ _ _ rfl WV.out ad n c (bK ks) rfl ZZ.out TN.out (zV ks) (by unfold maxLen; omega) (by omega) HB0.out.size ?_; intro v' w2 hown hgrow _; have HO:=hid hown; have HB:=hid (HB0.out.grown hgrow HB0.out.size (fun a ha=>(World.ownsRow.lt WV.out a ha).1)); clear hown hgrow)
  go_ret
  have ho:=HO.out;rw [Nat.zero_add,List.nil_append] at ho;obtain ⟨q,d,rfl⟩:∃ q d,v'=.slice q n d:=by
   rcases ho.2 with ⟨rfl,h1⟩ | ⟨g,c,cur,rfl,_⟩
   ·exact ⟨none,0,by rw [h1]⟩
   ·exact ⟨_,_,rfl⟩
  exact ⟨q,d,rfl,HB.out,ho⟩
set_option maxHeartbeats 4000000 in
theorem Fh (w:World) (p:Option Addr) (n c:Nat) (l:List Int) (h:InV mkI w p n c l) (hn:n≤10000000) :
  Calls prog 101 #[.slice p n c] w fun e w'=>∃ q d,e=.returned (.slice q n d)∧Below w.heap.size w w'∧w'.ownsRow w.heap.size 3 1 (.slice q n d) n (l.map mkI):=by
 obtain ⟨i3,hi3,hz0,hz1,hz2⟩:∃ i3,prog.info? 3=some i3∧i3.zero=some (.int .i64 0)∧i3.size=1∧i3.bytes=8:=by
  refine ⟨_,rfl,?_,?_,?_⟩ <;> kernel_rfl
 have HK:=hid h;clear h
 cases p with
 | none =>
  have hn0:n=0∧l=[]:=by
   obtain ⟨h1,h0 | ⟨b,off,hp,_⟩⟩:=HK.out
   ·exact ⟨h0,List.length_eq_zero_iff.1 (by omega)⟩
   ·cases hp
  obtain ⟨rfl,rfl⟩:=hn0;have he:∀ w:World,(binOp .eql 23 (.slice none 0 c) (.slice none 0 0)).run prog w=.ok (.bool true) w:=fun _=>rfl
  clear HK
  go_enter func101,ntmps101
  go_wp2_with fail
  go_ret
  exact ⟨none,0,rfl,Below.refl _ _,World.ownsRow_nil _ _ _ _⟩
 | some ad =>
  have HN:Hid (∀ j u,(l.map mkI)[j]?=some u→w.cell? (ad.add j)=some u):=hid (by
   obtain ⟨h1,h0 | ⟨b,off,hp,_,_,hat⟩⟩:=HK.out
   ·obtain rfl:l=[]:=List.length_eq_zero_iff.1 (by omega)
    intro j u hu; simp at hu
   ·cases hp; exact J9 hat)
  have yz:Hid (l.length=n):=hid HK.out.1.symm;have AZ:Hid (∀ (j:Nat) (u:Value),(l.map mkI)[j]?=some u→ad.block < w.heap.size):=hid (by
   obtain ⟨h1,h0 | ⟨b,off,hp,_,hb,hat⟩⟩:=HK.out
   ·obtain rfl:l=[]:=List.length_eq_zero_iff.1 (by omega)
    intro j u hu; simp at hu
   ·cases hp; intro j u _; exact hb)
  have WV:Hid ((w.alloc (.cells #[] 3)).ownsRow w.heap.size 3 1 (.slice (some ⟨w.heap.size,0,none⟩) 0 0) 0 []):=hid (World.ownsRow_lit w #[] 0 (Nat.le_refl _) (by unfold maxLen; omega) rfl);have HB0:=hid ((Below.refl w.heap.size w).alloc (Nat.le_refl _) (.cells #[] 3));have TN:Hid (∀ j u,(l.map mkI)[j]?=some u→(w.alloc (.cells #[] 3)).cell? (ad.add j)=some u):=hid fun j u hu=>by
   have h1:=AZ.out j u hu;have h2:=HN.out j u hu;have h3:(ad.add j).block < w.heap.size:=by unfold Addr.add; split <;> exact h1
   exact (HB0.out.cell h3).trans h2
  have ZZ:Hid ((l.map mkI).length=n * 1):=hid (by rw [List.length_map,yz.out]; omega);clear HK HN AZ;have he:∀ w:World,(binOp .eql 23 (.slice (some ad) n c) (.slice none 0 0)).run prog w=.ok (.bool false) w:=fun _=>rfl
  go_enter func101,ntmps101
  go_wp2_with (at_builtin; refine wpList_append_own _ rfl _ _ 23 rfl w.heap.size 3 i3 (.int .i64 0) 1 8 underlying23 hi3 hz0 hz1 hz2 rfl (by omega) _ _ _ rfl WV.out ad n c (l.map mkI) rfl ZZ.out TN.out (NU l) (by unfold maxLen; omega) (by omega) HB0.out.size ?_; intro v' w2 hown hgrow _; have HO:=hid hown; have HB:=hid (HB0.out.grown hgrow HB0.out.size (fun a ha=>(World.ownsRow.lt WV.out a ha).1)); clear hown hgrow)
  go_ret
  have ho:=HO.out;rw [Nat.zero_add,List.nil_append] at ho;obtain ⟨q,d,rfl⟩:∃ q d,v'=.slice q n d:=by
   rcases ho.2 with ⟨rfl,h1⟩ | ⟨g,c,cur,rfl,_⟩
   ·exact ⟨none,0,by rw [h1]⟩
   ·exact ⟨_,_,rfl⟩
  exact ⟨q,d,rfl,HB.out,ho⟩
theorem oG (b:Nat) (l:List Br):∀ o e,e ∈ aT b o l→∃ i k,l[i]?=some k∧e=⟨k,b,o+i * 6⟩:=by
 intro o e he;obtain ⟨i,hi⟩:=List.getElem?_of_mem he;rw [gV] at hi
 cases hk:l[i]? with
 | none=>rw [hk] at hi; cases hi
 | some k=>rw [hk] at hi; exact ⟨i,k,hk,by simpa using hi.symm⟩
theorem vX (b:Nat) (l:List Br):∀ o,((aT b o l).map fun e=>(e.b,e.o)).Nodup:=by
 induction l with
 | nil=>intro o; simp [aT]
 | cons x r ih =>
  intro o;simp only [aT,List.map_cons,List.nodup_cons];refine ⟨fun hm=>?_,ih (o+6)⟩
  obtain ⟨e,he,h2⟩:=List.mem_map.1 hm;obtain ⟨i,k,_,rfl⟩:=oG b r (o+6) e he;simp at h2
  omega
def Uo (w0:World) (P:Nat→Prop) (w:World) (h:Hd):Prop :=
 h.nn=h.ns.length∧(h.nn=0∨∃ nb cs,h.np=some ⟨nb,0,none⟩∧h.nn≤h.nc∧w0.heap.size≤nb∧¬ P nb∧w.heap[nb]?=some (.cells cs 3 (0,0))∧AtV mkI w nb 0 h.ns)
def XL (A:List BA) (h:Hd) (ks:List Br):Prop:=h.kn=ks.length∧(h.kn=0∨∃ kb,h.kp=some ⟨kb,0,none⟩∧h.kn≤h.kc∧∀ e ∈ aT kb 0 ks,e ∈ A)
def Cop (A:List BA) (w0:World) (P:Nat→Prop) (w:World) (e:BA):Prop :=
 ∃ h:Hd,dV w e.b e.o h∧(h.k=e.y.h.k∧h.m=e.y.h.m∧h.f=e.y.h.f∧h.t=e.y.h.t∧h.ns=e.y.h.ns)∧Uo w0 P w h∧XL A h e.y.ks
structure Ow (w0:World) (D st:List BA) (P:Nat→Prop) (w:World):Prop where
 bel:Below w0.heap.size w0 w
 pl:∀ b,P b→w0.heap.size≤b
 blk:∀ e ∈ D++st,w0.heap.size≤e.b∧¬ P e.b∧(∃ i,e.o=i * 6)∧(∃ cs,w.heap[e.b]?=some (.cells cs 26 (0,0)))∧e.y.Lies w0
 nodup:((D++st).map fun e=>(e.b,e.o)).Nodup
 pend:∀ e ∈ st,dV w e.b e.o e.y.h
 done:∀ e ∈ D,Cop (D++st) w0 P w e
theorem hlt {w:World} {b:Nat} {o:Obj} (h:w.heap[b]?=some o):b < w.heap.size:=(Array.getElem?_eq_some_iff.1 h).1
theorem ik {w w':World} {b:Nat} (h:w'.heap[b]?=w.heap[b]?) (j:Nat):w'.cell? ⟨b,j,none⟩=w.cell? ⟨b,j,none⟩:=World.cell?_of_block (a:=⟨b,j,none⟩) h
theorem dV.same {w w':World} {b o:Nat} {h:Hd} (hh:dV w b o h) (he:w'.heap[b]?=w.heap[b]?):dV w' b o h:=by
 obtain ⟨c0,c1,c2,c3,c4,c5⟩:=hh;exact ⟨(ik he _).trans c0,(ik he _).trans c1,(ik he _).trans c2,(ik he _).trans c3,(ik he _).trans c4,(ik he _).trans c5⟩
theorem Ow.move {w0 w w':World} {D st:List BA} {P P':Nat→Prop} (h:Ow w0 D st P w) (hb:Below w0.heap.size w0 w') (hm:∀ b o,w.heap[b]?=some o→¬ P b→w'.heap[b]?=some o) (hp:∀ b,P' b→P b∨w.heap.size≤b):Ow w0 D st P' w':=by
 have Lr:∀ b o,w.heap[b]?=some o→¬ P b→¬ P' b:=fun b o h1 h2 h3=>by
  rcases hp b h3 with h4 | h4
  ·exact h2 h4
  ·have:=hlt h1; omega
 have hsame:∀ b o,w.heap[b]?=some o→¬ P b→w'.heap[b]?=w.heap[b]?:=fun b o h1 h2=>(hm b o h1 h2).trans h1.symm
 refine ⟨hb,fun b hb'=>?_,fun e he=>?_,h.nodup,fun e he=>?_,fun e he=>?_⟩
 ·rcases hp b hb' with h4 | h4
  ·exact h.pl b h4
  ·have:=h.bel.size; omega
 ·obtain ⟨h1,h2,h3,⟨cs,h4⟩,h5⟩:=h.blk e he
  exact ⟨h1,Lr _ _ h4 h2,h3,⟨cs,hm _ _ h4 h2⟩,h5⟩
 ·obtain ⟨h1,h2,h3,⟨cs,h4⟩,h5⟩:=h.blk e (List.mem_append_right _ he)
  exact (h.pend e he).same (hsame _ _ h4 h2)
 ·obtain ⟨h1,h2,h3,⟨cs,h4⟩,h5⟩:=h.blk e (List.mem_append_left _ he)
  obtain ⟨hd,a1,a2,⟨a3,a4⟩,a5⟩:=h.done e he;refine ⟨hd,a1.same (hsame _ _ h4 h2),a2,⟨a3,?_⟩,a5⟩
  rcases a4 with a4 | ⟨nb,cs',b1,b2,b3,b4,b5,b6⟩
  ·exact .inl a4
  ·exact .inr ⟨nb,cs',b1,b2,b3,Lr _ _ b5 b4,hm _ _ b5 b4,fun i hi=>(ik (hsame _ _ b5 b4) _).trans (b6 i hi)⟩
theorem zC {w:World} {b:Nat} {cs:Array Value} (h:w.heap[b]?=some (.cells cs 26 (0,0))) (j:Nat) (v:Value):∃ cs',(w.setCell ⟨b,j,none⟩ v).heap[b]?=some (.cells cs' 26 (0,0)):=by
 have hl:=hlt h;have h2:w.heap[b]=Obj.cells cs 26 (0,0):=(Array.getElem?_eq_some_iff.1 h).2;refine ⟨cs.setIfInBounds j v,?_⟩
 simp [World.setCell,hl,Array.getElem_modify,h2]
theorem jb {w:World} {b b' j j':Nat} {v u:Value} (hne:b≠b'∨j≠j') (h:w.cell? ⟨b',j',none⟩=some u):(w.setCell ⟨b,j,none⟩ v).cell? ⟨b',j',none⟩=some u:=by
 rw [World.cell?_setCell_other (a:=⟨b,j,none⟩) (b:=⟨b',j',none⟩) (h:=fun e=>by simp only [Addr.mk.injEq,and_true] at e; omega)]; exact h
def put2 (w:World) (e:BA) (v1 v2:Value):World:=(w.setCell ⟨e.b,e.o+4,none⟩ v1).setCell ⟨e.b,e.o+5,none⟩ v2
theorem je {w:World} {e:BA} {v1 v2:Value} {k:Nat} (h:k≠e.b):(put2 w e v1 v2).heap[k]?=w.heap[k]?:=by
 unfold put2;rw [Below.heap_setCell _ ⟨e.b,e.o+5,none⟩ v2 k h,Below.heap_setCell _ ⟨e.b,e.o+4,none⟩ v1 k h]
theorem Gs {w:World} {e:BA} {v1 v2:Value} {cs:Array Value} (h:w.heap[e.b]?=some (.cells cs 26 (0,0))):∃ cs',(put2 w e v1 v2).heap[e.b]?=some (.cells cs' 26 (0,0)):=by
 obtain ⟨c1,h1⟩:=zC h (e.o+4) v1;exact zC h1 (e.o+5) v2
theorem ig {w:World} {e:BA} {v1 v2 u:Value} {b j:Nat} (hne:e.b≠b∨(e.o+4≠j∧e.o+5≠j)) (h:w.cell? ⟨b,j,none⟩=some u):(put2 w e v1 v2).cell? ⟨b,j,none⟩=some u :=
 jb (hne.imp id (·.2)) (jb (hne.imp id (·.1)) h)
theorem PY {w:World} {e:BA} {v1 v2 u1 u2:Value} (h1:w.cell? ⟨e.b,e.o+4,none⟩=some u1) (h2:w.cell? ⟨e.b,e.o+5,none⟩=some u2) :
  (put2 w e v1 v2).cell? ⟨e.b,e.o+4,none⟩=some v1∧(put2 w e v1 v2).cell? ⟨e.b,e.o+5,none⟩=some v2 :=
 ⟨jb (b:=e.b) (j:=e.o+5) (.inr (by omega)) (World.cell?_setCell_same _ _ _ h1),World.cell?_setCell_same _ _ _ (jb (b:=e.b) (j:=e.o+4) (.inr (by omega)) h2)⟩
theorem dV.put2 {w:World} {e:BA} {v1 v2:Value} {b o:Nat} {h:Hd} (hh:dV w b o h) (hne:e.b≠b∨e.o≠o) (h6:(∃ i,e.o=i * 6)∧∃ i,o=i * 6):dV (put2 w e v1 v2) b o h:=by
 obtain ⟨⟨i,hi⟩,⟨i',hi'⟩⟩:=h6;obtain ⟨c0,c1,c2,c3,c4,c5⟩:=hh;have key:∀ r,r < 6→(e.b≠b∨(e.o+4≠o+r∧e.o+5≠o+r)):=fun r hr=>by
  rcases hne with h | h
  ·exact .inl h
  ·exact .inr (by omega)
 exact ⟨ig (key 0 (by omega)) c0,ig (key 1 (by omega)) c1,ig (key 2 (by omega)) c2,ig (key 3 (by omega)) c3,ig (key 4 (by omega)) c4,ig (key 5 (by omega)) c5⟩
theorem Cop.mono {A A':List BA} {w0 w:World} {P:Nat→Prop} {e:BA} (h:Cop A w0 P w e) (hA:∀ x ∈ A,x ∈ A'):Cop A' w0 P w e:=by
 obtain ⟨hd,a1,a2,a3,a4,a5⟩:=h;refine ⟨hd,a1,a2,a3,a4,?_⟩
 rcases a5 with a5 | ⟨kb,b1,b2,b3⟩
 ·exact .inl a5
 ·exact .inr ⟨kb,b1,b2,fun x hx=>hA x (b3 x hx)⟩
theorem kC {w:World} {B E size n g d:Nat} {xs:List Value} (h:w.ownsRow B E size (.slice (some ⟨g,0,none⟩) n d) n xs) (j:Nat) (u:Value) (hj:xs[j]?=some u):w.cell? ⟨g,j,none⟩=some u:=by
 have hl:j < xs.length:=(List.getElem?_eq_some_iff.1 hj).1
 have:=World.ownsRow.cells h (g:=g) rfl j u hj
 have ha:((⟨g,0,none⟩:Addr).add j)=⟨g,j,none⟩:=by unfold Addr.add; split <;> simp_all
 rwa [ha] at this
theorem yc {w:World} {B n g d:Nat} {ks:List Br} (h:w.ownsRow B 26 6 (.slice (some ⟨g,0,none⟩) n d) n (bK ks)) (i:Nat) (k:Br) (hi:ks[i]?=some k):dV w g (0+i * 6) k.h:=by
 have key:∀ r u,r < 6→(iT k.h)[r]?=some u→w.cell? ⟨g,0+i * 6+r,none⟩=some u:=fun r u hr hu=>by
  rw [Nat.zero_add];exact kC h (i * 6+r) u ((sO ks i k hi r hr).trans hu)
 exact ⟨key 0 _ (by omega) rfl,key 1 _ (by omega) rfl,key 2 _ (by omega) rfl,key 3 _ (by omega) rfl,key 4 _ (by omega) rfl,key 5 _ (by omega) rfl⟩
theorem Ow.hand {w0 w:World} {D st:List BA} {P:Nat→Prop} {e:BA} {q1 q2:Option Addr} {n1 d1 n2 d2 B:Nat} (h:Ow w0 D (e :: st) P w) (hold:∀ x ∈ D++(e :: st),x.b < B) (hPB:∀ b,P b→b < B) (hB0:w0.heap.size≤B)
  (ho1:w.ownsRow B 3 1 (.slice q1 n1 d1) n1 (e.y.h.ns.map mkI)) (hn1:n1=e.y.h.ns.length) (ho2:w.ownsRow B 26 6 (.slice q2 n2 d2) n2 (bK e.y.ks)) (hn2:n2=e.y.ks.length) :
  ∃ kb,Ow w0 (e :: D) (aT kb 0 e.y.ks++st) P (put2 w e (.slice q1 n1 d1) (.slice q2 n2 d2)) ∧
   dV (put2 w e (.slice q1 n1 d1) (.slice q2 n2 d2)) e.b e.o ⟨e.y.h.k,e.y.h.m,e.y.h.f,e.y.h.t,q1,n1,d1,e.y.h.ns,q2,n2,d2⟩∧(n2=0∨q2=some ⟨kb,0,none⟩∧n2≤d2):=by
 have hee:=h.blk e (by simp);obtain ⟨e1,e2,e3,⟨ecs,e4⟩,e5⟩:=hee;obtain ⟨p0,p1,p2,p3,p4,p5⟩:=h.pend e (by simp);have Z4:∀ k ∈ e.y.ks,k.Lies w0:=((bW _ _).1 e5).2.2
 -- the kids' row
 obtain ⟨kb,hkb⟩:∃ kb,n2=0∨(q2=some ⟨kb,0,none⟩∧n2≤d2∧B≤kb∧(∃ cs,w.heap[kb]?=some (.cells cs 26 (0,0)))∧∀ i k,e.y.ks[i]?=some k→dV w kb (0+i * 6) k.h):=by
  rcases ho2.2 with ⟨_,h0⟩ | ⟨g,cap,cur,hv,hg,hh,hle,_⟩
  ·exact ⟨0,.inl h0⟩
  ·simp only [Value.slice.injEq] at hv
   obtain ⟨rfl,_,rfl⟩:=hv;exact ⟨g,.inr ⟨rfl,hle,hg,⟨cur,hh⟩,fun i k hi=>yc ho2 i k hi⟩⟩
 have hkl:n2=0→aT kb 0 e.y.ks=[]:=fun h0=>by
  have:e.y.ks=[]:=List.length_eq_zero_iff.1 (by omega)
  rw [this]; rfl
 have lI:∀ x ∈ aT kb 0 e.y.ks,∃ i k,e.y.ks[i]?=some k∧x=⟨k,kb,0+i * 6⟩∧B≤kb∧(∃ cs,w.heap[kb]?=some (.cells cs 26 (0,0)))∧dV w kb (0+i * 6) k.h:=fun x hx=>by
  obtain ⟨i,k,h1,h2⟩:=oG _ _ _ _ hx
  rcases hkb with h0 | ⟨_,_,h3,h4,h5⟩
  ·rw [hkl h0] at hx; cases hx
  ·exact ⟨i,k,h1,h2,h3,h4,h5 i k h1⟩
 have heB:e.b < B:=hold e (by simp);have Su:∀ x ∈ D++st,e.b≠x.b∨e.o≠x.o:=fun x hx=>by
  have hp:(D++e :: st).Perm (e :: (D++st)):=List.perm_middle;have hn:=(hp.map fun e=>(e.b,e.o)).nodup_iff.1 h.nodup;simp only [List.map_cons,List.nodup_cons] at hn
  by_cases hb:e.b=x.b
  ·right; intro ho
   exact hn.1 (List.mem_map.2 ⟨x,hx,by rw [hb,ho]⟩)
  ·exact .inl hb
 have hmem:∀ x ∈ D++(e :: st),x ∈ (e :: D)++(aT kb 0 e.y.ks++st):=fun x hx=>by
  simp only [List.mem_append,List.mem_cons] at hx ⊢
  rcases hx with h1 | h1 | h1
  ·exact .inl (.inr h1)
  ·exact .inl (.inl h1)
  ·exact .inr (.inr h1)
 have hblk:∀ x ∈ D++(e :: st),w0.heap.size≤x.b∧¬ P x.b∧(∃ i,x.o=i * 6)∧(∃ cs,(put2 w e (.slice q1 n1 d1) (.slice q2 n2 d2)).heap[x.b]?=some (.cells cs 26 (0,0)))∧x.y.Lies w0:=fun x hx=>by
  obtain ⟨h1,h2,h3,⟨cs,h4⟩,h5⟩:=h.blk x hx;refine ⟨h1,h2,h3,?_,h5⟩
  by_cases hxe:x.b=e.b
  ·rw [hxe] at h4 ⊢
   exact Gs h4
  ·exact ⟨cs,(je hxe).trans h4⟩
 have hbe:dV (put2 w e (.slice q1 n1 d1) (.slice q2 n2 d2)) e.b e.o ⟨e.y.h.k,e.y.h.m,e.y.h.f,e.y.h.t,q1,n1,d1,e.y.h.ns,q2,n2,d2⟩:=by
  obtain ⟨a1,a2⟩:=PY (v1:=.slice q1 n1 d1) (v2:=.slice q2 n2 d2) p4 p5;exact ⟨ig (.inr (by omega)) p0,ig (.inr (by omega)) p1,ig (.inr (by omega)) p2,ig (.inr (by omega)) p3,a1,a2⟩
 refine ⟨kb,⟨?_,h.pl,fun x hx=>?_,?_,fun x hx=>?_,fun x hx=>?_⟩,hbe,?_⟩
 ·exact (h.bel.setCell (p:=⟨e.b,e.o+4,none⟩) e1 _).setCell (p:=⟨e.b,e.o+5,none⟩) e1 _
 ·simp only [List.cons_append,List.mem_cons,List.mem_append] at hx
  rcases hx with rfl | hx | hx | hx
  ·exact hblk x (by simp)
  ·exact hblk x (by simp [hx])
  ·obtain ⟨i,k,g1,rfl,g2,⟨cs,g3⟩,g4⟩:=lI x hx
   refine ⟨by simp only; omega,fun hp=>by have:=hPB _ hp; simp only at this; omega,⟨i,by simp⟩,⟨cs,(je (by simp only; omega)).trans g3⟩,Z4 k (List.mem_of_getElem? g1)⟩
  ·exact hblk x (by simp [hx])
 ·have hp:((e :: D)++(aT kb 0 e.y.ks++st)).Perm (aT kb 0 e.y.ks++(D++e :: st)):=by
   have h1:((e :: D)++(aT kb 0 e.y.ks++st)).Perm (e :: (aT kb 0 e.y.ks++(D++st))):=by
    rw [List.cons_append];refine List.Perm.cons _ ?_
    rw [← List.append_assoc,← List.append_assoc];exact List.Perm.append_right _ List.perm_append_comm
   refine h1.trans ?_
   refine (List.perm_middle (a:=e) (l₁:=aT kb 0 e.y.ks) (l₂:=D++st)).symm.trans ?_
   exact List.Perm.append_left _ List.perm_middle.symm
  refine (hp.map fun e=>(e.b,e.o)).nodup_iff.2 ?_
  rw [List.map_append];refine List.nodup_append.2 ⟨vX _ _ _,h.nodup,fun a ha c hc hac=>?_⟩
  obtain ⟨x,hx,rfl⟩:=List.mem_map.1 ha;obtain ⟨y,hy,rfl⟩:=List.mem_map.1 hc;obtain ⟨i,k,g1,rfl,g2,_⟩:=lI x hx
  have:=hold y hy
  simp only [Prod.mk.injEq] at hac
  omega
 ·rcases List.mem_append.1 hx with hx | hx
  ·obtain ⟨i,k,g1,rfl,g2,⟨cs,g3⟩,g4⟩:=lI x hx
   exact g4.put2 (.inl (by omega)) ⟨e3,⟨i,by omega⟩⟩
  ·exact (h.pend x (by simp [hx])).put2 (Su x (by simp [hx])) ⟨e3,(h.blk x (by simp [hx])).2.2.1⟩
 ·rcases List.mem_cons.1 hx with rfl | hx
  ·refine ⟨_,hbe,⟨rfl,rfl,rfl,rfl,rfl⟩,⟨hn1,?_⟩,⟨hn2,?_⟩⟩
   ·rcases ho1.2 with ⟨_,h0⟩ | ⟨g,cap,cur,hv,hg,hh,hle,_⟩
    ·exact .inl h0
    ·simp only [Value.slice.injEq] at hv
     obtain ⟨rfl,_,rfl⟩:=hv;have hge:g≠x.b:=by omega
     refine .inr ⟨g,cur,rfl,hle,by omega,fun hp=>by have:=hPB _ hp; omega,(je hge).trans hh,fun i hi=>?_⟩
     refine (ik (je hge) _).trans ?_
     rw [Nat.zero_add];exact kC ho1 i _ (by rw [List.getElem?_map,List.getElem?_eq_getElem hi]; rfl)
   ·rcases hkb with h0 | ⟨g1,g2,_⟩
    ·exact .inl h0
    ·exact .inr ⟨kb,g1,g2,fun y hy=>by simp [hy]⟩
  ·obtain ⟨hd,a1,a2,⟨a3,a4⟩,a5⟩:=(h.done x hx).mono hmem
   obtain ⟨b1,b2,b3,b4,b5⟩:=h.blk x (by simp [hx]);refine ⟨hd,a1.put2 (Su x (by simp [hx])) ⟨e3,b3⟩,a2,⟨a3,?_⟩,a5⟩
   rcases a4 with a4 | ⟨nb,cs',c1,c2,c3,c4,c5,c6⟩
   ·exact .inl a4
   ·have hne:nb≠e.b:=by
     rintro rfl;rw [e4] at c5; injection c5 with c5; injection c5 with _ c5 _; exact absurd c5 (by decide)
    exact .inr ⟨nb,cs',c1,c2,c3,c4,(je hne).trans c5,fun i hi=>(ik (je hne) _).trans (c6 i hi)⟩
 ·rcases hkb with h0 | ⟨g1,g2,_⟩
  ·exact .inl h0
  ·exact .inr ⟨g1,g2⟩
theorem kE {w:World} {b b' E size n:Nat} {v:Value} {xs:List Value} (h:w.ownsRow b E size v n xs) (hb:b'≤b):w.ownsRow b' E size v n xs:=by
 obtain ⟨hl,h0 | ⟨g,c,cur,hv,hg,hh,hr⟩⟩:=h
 ·exact ⟨hl,.inl h0⟩
 ·exact ⟨hl,.inr ⟨g,c,cur,hv,Nat.le_trans hb hg,hh,hr⟩⟩
theorem row_step {w w':World} {b E size n:Nat} {v:Value} {xs:List Value} (h:w.ownsRow b E size v n xs) (hw:Below w.heap.size w w'):w'.ownsRow b E size v n xs:=by
 obtain ⟨hl,h0 | ⟨g,c,cur,hv,hg,hh,hr⟩⟩:=h
 ·exact ⟨hl,.inl h0⟩
 ·exact ⟨hl,.inr ⟨g,c,cur,hv,hg,(hw.block g (hlt hh)).trans hh,hr⟩⟩
def OwI (w0:World) (root:BA) (st:List BA) (P:Nat→Prop) (w:World):Prop:=∃ D,root ∈ D++st∧Ow w0 D st P w
def OwJ (w0:World) (root e:BA) (st:List BA) (P:Nat→Prop) (w:World):Prop :=
 ∃ (h:Hd) (kl:List BA),dV w e.b e.o h∧h.kn=kl.length∧szs szB kl+1≤szB e∧(kl.length=0∨∃ b off,h.kp=some ⟨b,off,none⟩∧kl.length≤h.kc∧∀ i e',kl[i]?=some e'→BA.ad e'=⟨b,off+i * 6,none⟩)∧(∀ x ∈ kl,x.y ∈ e.y.ks)∧OwI w0 root (kl++st) P w
theorem Um (e:BA) (kb:Nat):szs szB (aT kb 0 e.y.ks)+1≤szB e:=by
 rw [zL,nM,szB,iI,List.length_cons]
 omega
inductive Ntr where
 | mk (k m f t:Int) (ns:List Int) (ks:List Ntr)
mutual
def Br.ntr:Br→Ntr
 | .mk h ks=>.mk h.k h.m h.f h.t h.ns (ntL ks)
def ntL:List Br→List Ntr
 | []=>[]
 | b :: r=>b.ntr :: ntL r
end
theorem nZ:∀ l:List Br,ntL l=l.map Br.ntr
 | []=>rfl
 | b :: r=>by simp only [ntL,List.map_cons,nZ r]
def Agr (N:Nat) (w w2:World):Prop:=w.heap.size≤w2.heap.size∧∀ k,N≤k→k < w.heap.size→w2.heap[k]?=w.heap[k]?
theorem Ow.copy {w0 w:World} {D:List BA} {P:Nat→Prop} (h:Ow w0 D [] P w):∀ (y:Br) (b o:Nat),(⟨y,b,o⟩:BA) ∈ D→∃ y':Br,y'.ntr=y.ntr∧∀ w2,Agr w0.heap.size w w2→dV w2 b o y'.h∧y'.Lies w2:=by
 refine Br.ind (P:=fun y=>∀ b o,(⟨y,b,o⟩:BA) ∈ D→∃ y':Br,y'.ntr=y.ntr∧∀ w2,Agr w0.heap.size w w2→dV w2 b o y'.h∧y'.Lies w2) ?_
 intro hd ks ih b o hm;obtain ⟨h1,h2,h3,⟨cs,h4⟩,h5⟩:=h.blk _ (List.mem_append_left _ hm);obtain ⟨h',a1,⟨b1,b2,b3,b4,b5⟩,⟨c1,c2⟩,⟨d1,d2⟩⟩:=h.done _ hm;dsimp only at h1 h4 a1
 simp only [Br.h,Br.ks] at b1 b2 b3 b4 b5 d1 d2;have row:∀ (kb:Nat) (l:List Br) (of:Nat),(∀ k ∈ l,k ∈ ks)→(∀ e ∈ aT kb of l,e ∈ D)→∃ l':List Br,l'.length=l.length∧ntL l'=ntL l∧∀ w2,Agr w0.heap.size w w2→(∀ i k',l'[i]?=some k'→dV w2 kb (of+i * 6) k'.h)∧pq w2 l':=by
  intro kb l
  induction l with
  | nil=>intro of _ _; exact ⟨[],rfl,rfl,fun w2 _=>⟨fun i k' hi=>by simp at hi,trivial⟩⟩
  | cons x r ihr =>
   intro of hs he;obtain ⟨x',g1,g2⟩:=ih x (hs x (by simp)) kb of (he ⟨x,kb,of⟩ (by simp [aT]));obtain ⟨r',f1,f2,f3⟩:=ihr (of+6) (fun k hk=>hs k (by simp [hk])) (fun e hm=>he e (by simp [aT,hm]));refine ⟨x' :: r',by simp [f1],by simp only [ntL,g1,f2],fun w2 hw=>⟨fun i k' hi=>?_,?_⟩⟩
   ·cases i with
    | zero=>simp only [List.getElem?_cons_zero,Option.some.injEq] at hi; subst hi; simpa using (g2 w2 hw).1
    | succ i =>
     simp only [List.getElem?_cons_succ] at hi
     have:=(f3 w2 hw).1 i k' hi
     rwa [show of+6+i * 6=of+(i+1) * 6 by omega] at this
   ·simp only [pq]; exact ⟨(g2 w2 hw).2,(f3 w2 hw).2⟩
 have names:∀ w2,Agr w0.heap.size w w2→InV mkI w2 h'.np h'.nn h'.nc h'.ns:=fun w2 hw=>by
  refine ⟨c1,?_⟩
  rcases c2 with c2 | ⟨nb,cs',e1,e2,e3,e4,e5,e6⟩
  ·exact .inl c2
  ·have hl:=hlt e5
   exact .inr ⟨nb,0,e1,e2,Nat.lt_of_lt_of_le hl hw.1,fun i hi=>(ik (hw.2 nb e3 hl) _).trans (e6 i hi)⟩
 have hself:∀ w2,Agr w0.heap.size w w2→dV w2 b o h':=fun w2 hw=>a1.same (hw.2 b h1 (hlt h4))
 rcases d2 with d2 | ⟨kb,f1,f2,f3⟩
 ·have hk0:ks=[]:=List.length_eq_zero_iff.1 (by omega)
  subst hk0;refine ⟨.mk h' [],by simp only [Br.ntr,b1,b2,b3,b4,b5],fun w2 hw=>⟨hself w2 hw,?_⟩⟩
  simp only [Br.Lies,pq,and_true];exact ⟨names w2 hw,d1,.inl d2⟩
 ·obtain ⟨l',g1,g2,g3⟩:=row kb ks 0 (fun k hk=>hk) (fun e he=>by simpa using f3 e he)
  refine ⟨.mk h' l',by simp only [Br.ntr,b1,b2,b3,b4,b5,g2],fun w2 hw=>⟨hself w2 hw,?_⟩⟩
  simp only [Br.Lies];refine ⟨names w2 hw,⟨by rw [d1,g1],?_⟩,(g3 w2 hw).2⟩
  by_cases hk0:h'.kn=0
  ·exact .inl hk0
  ·have hne:∃ x,ks[0]?=some x:=⟨_,List.getElem?_eq_getElem (by omega)⟩
   obtain ⟨x,hx⟩:=hne;have hxm:(⟨x,kb,0⟩:BA) ∈ aT kb 0 ks:=by
    refine List.mem_of_getElem? (i:=0) ?_
    rw [gV,hx]; simp
   have Z5:=f3 _ hxm;obtain ⟨_,_,_,⟨cs',hb'⟩,_⟩:=h.blk _ (List.mem_append_left [] (by simpa using Z5));refine .inr ⟨kb,0,f1,f2,Nat.lt_of_lt_of_le (hlt hb') hw.1,fun i hi=>?_⟩
   exact (g3 w2 hw).1 i l'[i] (List.getElem?_eq_getElem hi)
def Yr (w:World) (y:Br) (x:Ending) (w':World):Prop:=∃ y':Br,x=.returned y'.h.val∧(∀ w2,Agr w.heap.size w' w2→y'.Lies w2)∧y'.ntr=y.ntr∧Below w.heap.size w w'
def zQ (w:World) (g:Nat) (h:Hd):World:=(((((w.setCell ⟨g,0,none⟩ (.int .i64 h.k)).setCell ⟨g,1,none⟩ (.int .i64 h.m)).setCell ⟨g,2,none⟩ (.int .i64 h.f)).setCell ⟨g,3,none⟩ (.int .i64 h.t)).setCell ⟨g,4,none⟩ (.slice h.np h.nn h.nc)).setCell ⟨g,5,none⟩ (.slice h.kp h.kn h.kc)
theorem F9 {w:World} {g k:Nat} {h:Hd} (hk:k≠g):(zQ w g h).heap[k]?=w.heap[k]?:=by
 unfold zQ;rw [Below.heap_setCell _ ⟨g,_,none⟩ _ k hk,Below.heap_setCell _ ⟨g,_,none⟩ _ k hk,Below.heap_setCell _ ⟨g,_,none⟩ _ k hk,Below.heap_setCell _ ⟨g,_,none⟩ _ k hk,Below.heap_setCell _ ⟨g,_,none⟩ _ k hk,Below.heap_setCell _ ⟨g,_,none⟩ _ k hk]
theorem lg {w:World} {g:Nat} {cs:Array Value} {T:TypeId} (h:w.heap[g]?=some (.cells cs T (0,0))) (j:Nat) (v:Value):(w.setCell ⟨g,j,none⟩ v).heap[g]?=some (.cells (cs.setIfInBounds j v) T (0,0)):=by
 have hl:=hlt h;have h2:w.heap[g]=Obj.cells cs T (0,0):=(Array.getElem?_eq_some_iff.1 h).2
 simp [World.setCell,hl,Array.getElem_modify,h2]
theorem IG {w:World} {g:Nat} {x0 x1 x2 x3 x4 x5:Value} {T:TypeId} (h:w.heap[g]?=some (.cells #[x0,x1,x2,x3,x4,x5] T (0,0))) (b:Hd) :
  (zQ w g b).heap[g]?=some (.cells #[.int .i64 b.k,.int .i64 b.m,.int .i64 b.f,.int .i64 b.t,.slice b.np b.nn b.nc,.slice b.kp b.kn b.kc] T (0,0)):=by
 unfold zQ;have h1:=lg h 0 (.int .i64 b.k);have h2:=lg h1 1 (.int .i64 b.m);have h3:=lg h2 2 (.int .i64 b.f);have h4:=lg h3 3 (.int .i64 b.t);have h5:=lg h4 4 (.slice b.np b.nn b.nc);have h6:=lg h5 5 (.slice b.kp b.kn b.kc)
 simpa using h6
def Fp (w:World) (N M:Nat) (y:Br):Prop:=∀ w2:World,M≤w2.heap.size→(∀ b,N≤b→b < M→w2.heap[b]?=w.heap[b]?)→y.Lies w2
structure AlS (w0:World) (ob:Nat) (sel:Int→Bool) (l:List Br) (P:Nat→Prop) (w:World) (q:Option Addr) (m c:Nat) (ys:List Br):Prop where
 bel:Below w0.heap.size w0 w
 pl:∀ b,P b→w0.heap.size≤b
 ob0:w0.heap.size≤ob∧¬ P ob
 out:w.heap[ob]?=some (.cells #[.slice q m c] 24 (0,0))
 row:w.ownsRow w0.heap.size 26 6 (.slice q m c) m (bK ys)
 nrow:∀ g,(Value.slice q m c).ownBlock=some g→¬ P g
 len:m=ys.length∧m≤l.length
 cps:∀ y ∈ ys,∃ N M,w0.heap.size≤N∧M≤w.heap.size∧(∀ b,N≤b→b < M→¬ P b∧b≠ob∧(Value.slice q m c).ownBlock≠some b)∧Fp w N M y
 tell:ys.map Br.ntr=(l.filter fun y=>sel y.h.k).map Br.ntr
def putAt (w:World) (g o:Nat) (h:Hd):World:=(((((w.setCell ⟨g,o,none⟩ (.int .i64 h.k)).setCell ⟨g,o+1,none⟩ (.int .i64 h.m)).setCell ⟨g,o+2,none⟩ (.int .i64 h.f)).setCell ⟨g,o+3,none⟩ (.int .i64 h.t)).setCell ⟨g,o+4,none⟩ (.slice h.np h.nn h.nc)).setCell ⟨g,o+5,none⟩ (.slice h.kp h.kn h.kc)
def AlI (w0:World) (ob:Nat) (sel:Int→Bool) (l:List Br) (P:Nat→Prop) (w:World):Prop:=∃ q m c ys,AlS w0 ob sel l P w q m c ys
def Yq (w:World) (nd:Br) (sel:Int→Bool) (x:Ending) (w':World):Prop :=
 ∃ (q:Option Addr) (m c:Nat) (ys:List Br),x=.returned (.slice q m c)∧w'.ownsRow w.heap.size 26 6 (.slice q m c) m (bK ys)∧m=ys.length∧(∀ y ∈ ys,∀ w2,Agr w.heap.size w' w2→y.Lies w2)∧ys.map Br.ntr=(nd.flatB.filter fun y=>sel y.h.k).map Br.ntr∧Below w.heap.size w w'
def Q7 (o:Nat × Br):List Value:=.int .i64 (o.1:Nat) :: iT o.2.h
def OE (l:List (Nat × Br)):List Value:=l.flatMap Q7
structure PN where
 pc:PC
 nd:Br
def isOpen (y:Br):Bool:=[(13:Int)].contains y.h.k
def tells (qs:List PN):Nat→List (Nat × Ntr)
 | 0=>[]
 | k+1=>tells qs k++(match qs[k]? with | some q=>((q.nd.flatB.filter isOpen).map fun y=>(k,y.ntr)) | none=>[])
def ad6 (w:World) (v:Value) (os:List (Nat × Br)):Prop:=∀ o ∈ os,∃ N M,M≤w.heap.size∧(∀ b,N≤b→b < M→v.ownBlock≠some b)∧Fp w N M o.2
theorem FH {w:World} {B E size n:Nat} {v:Value} {xs:List Value} (h:w.ownsRow B E size v n xs) (g:Nat) (hg:v.ownBlock=some g):B≤g∧g < w.heap.size:=by
 obtain ⟨_,⟨h0,_⟩ | ⟨g',c,cur,hv,hb,hh,_⟩⟩:=h
 ·rw [h0] at hg; simp [Value.ownBlock] at hg
 ·have:g'=g:=by rw [hv] at hg; simpa [Value.ownBlock] using hg
  subst this;exact ⟨hb,hlt hh⟩
theorem Agr.below {N:Nat} {w w1 w2:World} (h:Agr N w w1) (hb:Below w1.heap.size w1 w2):Agr N w w2:=⟨Nat.le_trans h.1 hb.size,fun k h1 h2=>(hb.block k (Nat.lt_of_lt_of_le h2 h.1)).trans (h.2 k h1 h2)⟩
theorem Agr.grown {N:Nat} {w w1 w2:World} {r:Option Nat} (h:Agr N w w1) (hg:w1.grownBy w2 r) (hr:∀ b,N≤b→b < w.heap.size→r≠some b):Agr N w w2:=⟨Nat.le_trans h.1 hg.size,fun k h1 h2=>(hg.block k (Nat.lt_of_lt_of_le h2 h.1) fun e=>hr k h1 h2 e.symm).trans (h.2 k h1 h2)⟩
def Vg (W:World) (qs:List PN) (e:Ending) (W':World):Prop:=∃ (q:Option Addr) (n c:Nat) (os:List (Nat × Br)),e=.returned (.slice q n c)∧W'.ownsRow W.heap.size 81 7 (.slice q n c) n (OE os)∧n=os.length∧(∀ o ∈ os,o.2.Lies W')∧os.map (fun o=>(o.1,o.2.ntr))=tells qs qs.length∧Below W.heap.size W W'
end Go.Proofs.YtmpmfamiegpmgaaGreatDoor
