/-
  The nodes of some kinds (looks.go's All): what is kept while they are gathered.; The nodes of some kinds (looks.go's All): one node more.; The nodes of some kinds (looks.go's All): the function that is handed each node.; The nodes of some kinds (looks.go's All), walked.; unit's Opens: all opens, in order.
-/
import Derived.Test.YtmpmfamiegpmgaaGreatDoorFJA
import Derived.Test.YtmpmfamiegpmgaaGreatDoorFU
import Derived.Deep.AppendLies
import Derived.Deep.RegionLaw
import Derived.Deep.CutRange
import Derived.BigQuiet
import Derived.Test.YtmpmfamiegpmgaaGreatDoorFHD
import Derived.Deep.Cut
namespace Go.Proofs.YtmpmfamiegpmgaaGreatDoor
open Tryz
open Go.Lib (cell_of_heap hid)
open Go.RowKit
set_option maxRecDepth 20000
set_option linter.unusedVariables false
set_option linter.unusedSimpArgs false
theorem OM:∀ (x:Br),x.Few→∀ y ∈ x.flatB,y.Few∧y.flatB.length≤x.flatB.length:=by
 refine Br.ind (P:=fun x=>x.Few→∀ y ∈ x.flatB,y.Few∧y.flatB.length≤x.flatB.length) ?_
 intro h ks ih hf y hy;rw [fG] at hy
 rcases List.mem_cons.1 hy with rfl | hy
 ·exact ⟨hf,Nat.le_refl _⟩
 ·obtain ⟨k,hk,hyk⟩:=qC hy
  have hfk:k.Few:=by
   simp only [Br.Few,nP] at hf;exact hf.2.2 k hk
  obtain ⟨h1,h2⟩:=ih k hk hfk y hyk;refine ⟨h1,Nat.le_trans h2 ?_⟩
  rw [fG (.mk h ks),List.length_cons]
  have:∀ l:List Br,k ∈ l→k.flatB.length≤(aV l).length:=fun l=>by
   induction l with
   | nil=>intro h; cases h
   | cons z r ihr =>
    intro hm;simp only [aV,List.length_append]
    rcases List.mem_cons.1 hm with rfl | hm
    ·omega
    ·have:=ihr hm; omega
  have:=this ks hk
  simp only [Br.ks] at *
  omega
def Fp (w:World) (N M:Nat) (y:Br):Prop:=∀ w2:World,M≤w2.heap.size→(∀ b,N≤b→b < M→w2.heap[b]?=w.heap[b]?)→y.Lies w2
structure AlS (w0:World) (ob:Nat) (sel:Int→Bool) (l:List Br) (P:Nat→Prop) (w:World) (q:Option Addr) (m c:Nat) (ys:List Br):Prop where
 bel:Below w0.heap.size w0 w
 pl:∀ b,P b→w0.heap.size≤b
 ob0:w0.heap.size≤ob∧¬ P ob
 out:w.heap[ob]?=some (.cells #[.slice q m c] 24 (0,0))
 row:w.ownsRow w0.heap.size 26 6 (.slice q m c) m (bJ ys)
 nrow:∀ g,(Value.slice q m c).ownBlock=some g→¬ P g
 len:m=ys.length∧m≤l.length
 cps:∀ y ∈ ys,∃ N M,w0.heap.size≤N∧M≤w.heap.size∧(∀ b,N≤b→b < M→¬ P b∧b≠ob∧(Value.slice q m c).ownBlock≠some b)∧Fp w N M y
 tell:ys.map Br.ntr=(l.filter fun y=>sel y.h.k).map Br.ntr
theorem AlS.move {w0 w w':World} {ob:Nat} {sel:Int→Bool} {l:List Br} {P P':Nat→Prop} {q:Option Addr} {m c:Nat} {ys:List Br} (h:AlS w0 ob sel l P w q m c ys) (hb:Below w0.heap.size w0 w') (hs:w.heap.size≤w'.heap.size) (hm:∀ b,b < w.heap.size→¬ P b→w'.heap[b]?=w.heap[b]?) (hp:∀ b,P' b→P b∨w.heap.size≤b) :
  AlS w0 ob sel l P' w' q m c ys:=by
 have np:∀ b,b < w.heap.size→¬ P b→¬ P' b:=fun b h1 h2 h3=>by
  rcases hp b h3 with h4 | h4
  ·exact h2 h4
  ·omega
 have hol:=hlt h.out;refine ⟨hb,fun b hb'=>?_,⟨h.ob0.1,np _ hol h.ob0.2⟩,(hm _ hol h.ob0.2).trans h.out,?_,fun g hg=>?_,h.len,fun y hy=>?_,h.tell⟩
 ·rcases hp b hb' with h4 | h4
  ·exact h.pl b h4
  ·have:=h.bel.size; omega
 ·obtain ⟨hl,h0 | ⟨g,cc,cur,hv,hg,hh,hr⟩⟩:=h.row
  ·exact ⟨hl,.inl h0⟩
  ·exact ⟨hl,.inr ⟨g,cc,cur,hv,hg,(hm g (hlt hh) (h.nrow g (by rw [hv]; rfl))).trans hh,hr⟩⟩
 ·obtain ⟨hl,⟨h0,_⟩ | ⟨g',cc,cur,hv,hg',hh,hr⟩⟩:=h.row
  ·rw [h0] at hg; simp [Value.ownBlock] at hg
  ·have hgg:g'=g:=by rw [hv] at hg; simpa [Value.ownBlock] using hg
   subst hgg;exact np _ (hlt hh) (h.nrow _ hg)
 ·obtain ⟨N,M,h1,h2,h3,h4⟩:=h.cps y hy
  refine ⟨N,M,h1,Nat.le_trans h2 hs,fun b hb1 hb2=>⟨np b (by omega) (h3 b hb1 hb2).1,(h3 b hb1 hb2).2⟩,fun w2 g1 g2=>h4 w2 g1 fun b hb1 hb2=>(g2 b hb1 hb2).trans (hm b (by omega) (h3 b hb1 hb2).1)⟩
theorem AlS.skip {w0 w:World} {ob:Nat} {sel:Int→Bool} {l:List Br} {P:Nat→Prop} {q:Option Addr} {m c:Nat} {ys:List Br} (h:AlS w0 ob sel l P w q m c ys) {y:Br} (hy:sel y.h.k=false):AlS w0 ob sel (l++[y]) P w q m c ys :=
 ⟨h.bel,h.pl,h.ob0,h.out,h.row,h.nrow,⟨h.len.1,by have:=h.len.2; simp; omega⟩,h.cps,by rw [h.tell]; simp [hy]⟩
def putAt (w:World) (g o:Nat) (h:Hd):World:=(((((w.setCell ⟨g,o,none⟩ (.int .i64 h.k)).setCell ⟨g,o+1,none⟩ (.int .i64 h.m)).setCell ⟨g,o+2,none⟩ (.int .i64 h.f)).setCell ⟨g,o+3,none⟩ (.int .i64 h.t)).setCell ⟨g,o+4,none⟩ (.slice h.np h.nn h.nc)).setCell ⟨g,o+5,none⟩ (.slice h.kp h.kn h.kc)
theorem lW {w:World} {g o k:Nat} {h:Hd} (hk:k≠g):(putAt w g o h).heap[k]?=w.heap[k]?:=by
 unfold putAt;rw [Below.heap_setCell _ ⟨g,_,none⟩ _ k hk,Below.heap_setCell _ ⟨g,_,none⟩ _ k hk,Below.heap_setCell _ ⟨g,_,none⟩ _ k hk,Below.heap_setCell _ ⟨g,_,none⟩ _ k hk,Below.heap_setCell _ ⟨g,_,none⟩ _ k hk,Below.heap_setCell _ ⟨g,_,none⟩ _ k hk]
theorem Gy (w:World) (g o:Nat) (h:Hd):(putAt w g o h).heap.size=w.heap.size:=by simp [putAt]
theorem Rx (a z:List Value) (v0 v1 v2 v3 v4 v5 x0 x1 x2 x3 x4 x5:Value) (o:Nat) (ho:a.length=o) :
  ((((((a++[x0,x1,x2,x3,x4,x5]).set o v0).set (o+1) v1).set (o+2) v2).set (o+3) v3).set (o+4) v4).set (o+5) v5=a++[v0,v1,v2,v3,v4,v5]:=by
 subst ho
 simp [List.set_append_right]
theorem zC {w:World} {B g n c:Nat} {ks:List Br} {x0 x1 x2 x3 x4 x5:Value} (h:w.ownsRow B 26 6 (.slice (some ⟨g,0,none⟩) n c) n (bJ ks++[x0,x1,x2,x3,x4,x5])) (y:Br):(putAt w g (ks.length * 6) y.h).ownsRow B 26 6 (.slice (some ⟨g,0,none⟩) n c) n (bJ (ks++[y])):=by
 have h0:=(World.ownsRow.stored h (ks.length * 6) (.int .i64 y.h.k)).1;have h1:=(World.ownsRow.stored h0 (ks.length * 6+1) (.int .i64 y.h.m)).1;have h2:=(World.ownsRow.stored h1 (ks.length * 6+2) (.int .i64 y.h.f)).1;have h3:=(World.ownsRow.stored h2 (ks.length * 6+3) (.int .i64 y.h.t)).1;have h4:=(World.ownsRow.stored h3 (ks.length * 6+4) (.slice y.h.np y.h.nn y.h.nc)).1;have h5:=(World.ownsRow.stored h4 (ks.length * 6+5) (.slice y.h.kp y.h.kn y.h.kc)).1;rw [Rx _ [] _ _ _ _ _ _ _ _ _ _ _ _ _ (ik ks)] at h5;have e:bJ (ks++[y])=bJ ks++[.int .i64 y.h.k,.int .i64 y.h.m,.int .i64 y.h.f,.int .i64 y.h.t,.slice y.h.np y.h.nn y.h.nc,.slice y.h.kp y.h.kn y.h.kc]:=by simp [bJ,jU]
 rw [e];exact h5
theorem G9 {w5 wX:World} {N:Nat} {y:Br} (hy:∀ w2,Agr N w5 w2→y.Lies w2) (hX:Below w5.heap.size w5 wX):Fp wX N w5.heap.size y:=fun w2 h1 h2 =>
 hy w2 ⟨h1,fun k hk1 hk2=>(h2 k hk1 hk2).trans (hX.block k hk2)⟩
theorem O7 {w w':World} {b E size n c g:Nat} {xs:List Value} (h:w.ownsRow b E size (.slice (some ⟨g,0,none⟩) n c) n xs) (he:w'.heap[g]?=w.heap[g]?):w'.ownsRow b E size (.slice (some ⟨g,0,none⟩) n c) n xs:=by
 obtain ⟨hl,⟨h0,_⟩ | ⟨g',cc,cur,hv,hg,hh,hr⟩⟩:=h
 ·cases h0
 ·have:g'=g:=by simp only [Value.slice.injEq,Option.some.injEq,Addr.mk.injEq] at hv; exact hv.1.1.symm
  subst this;exact ⟨hl,.inr ⟨g',cc,cur,hv,hg,he.trans hh,hr⟩⟩
theorem AlS.fin {w0 wc wX w6 wf:World} {ob:Nat} {sel:Int→Bool} {l:List Br} {P:Nat→Prop} {q:Option Addr} {m c g cap N M:Nat} {ys:List Br} {y y5:Br} (h:AlS w0 ob sel l P wc q m c ys) (hP:∀ b,P b→b < wc.heap.size) (hX:Below wc.heap.size wc wX) (hN:wc.heap.size≤N) (hM:M≤wX.heap.size) (hfp:Fp wX N M y5) (hgr:wX.grownBy w6 (Value.slice q m c).ownBlock)
  (hg:(Value.slice q m c).ownBlock=some g∨g=wX.heap.size) (hrow:w6.ownsRow w0.heap.size 26 6 (.slice (some ⟨g,0,none⟩) (m+1) cap) (m+1) (bJ ys++[.int .i64 0,.int .i64 0,.int .i64 0,.int .i64 0,.slice none 0 0,.slice none 0 0]))
  (hwf:wf=(putAt w6 g (m * 6) y5.h).setCell ⟨ob,0,none⟩ (.slice (some ⟨g,0,none⟩) (m+1) cap)∨wf=putAt (w6.setCell ⟨ob,0,none⟩ (.slice (some ⟨g,0,none⟩) (m+1) cap)) g (m * 6) y5.h) (hnt:y5.ntr=y.ntr) (hy:sel y.h.k=true) :
  AlS w0 ob sel (l++[y]) P wf (some ⟨g,0,none⟩) (m+1) cap (ys++[y5])∧jO P wc wf:=by
 have hol:=hlt h.out;obtain ⟨hg0,gcs,hgb⟩:w0.heap.size≤g∧∃ cs,w6.heap[g]?=some (.cells cs 26 (0,0)):=by
  obtain ⟨_,⟨h0,_⟩ | ⟨g',cc,cur,hv,hgi,hh,hr⟩⟩:=hrow
  ·cases h0
  ·have:g'=g:=by simp only [Value.slice.injEq,Option.some.injEq,Addr.mk.injEq] at hv; exact hv.1.1.symm
   subst this;exact ⟨hgi,_,hh⟩
 have hold:∀ b,(Value.slice q m c).ownBlock=some b→b < wc.heap.size∧w0.heap.size≤b∧∃ cs,wc.heap[b]?=some (.cells cs 26 (0,0)):=fun b hb=>by
  obtain ⟨_,⟨h0,_⟩ | ⟨g',cc,cur,hv,hg',hh,hr⟩⟩:=h.row
  ·rw [h0] at hb; simp [Value.ownBlock] at hb
  ·have:g'=b:=by rw [hv] at hb; simpa [Value.ownBlock] using hb
   subst this;exact ⟨hlt hh,hg',_,hh⟩
 have P7:ob≠g:=by
  rcases hg with hg | hg
  ·rintro rfl
   obtain ⟨_,_,cs,hcs⟩:=hold ob hg;rw [h.out] at hcs; injection hcs with hcs; injection hcs with _ hcs _; exact absurd hcs (by decide)
  ·have:=hX.size; omega
 have Xv:w6.heap[ob]?=some (.cells #[.slice q m c] 24 (0,0)):=by
  refine (hgr.block ob (Nat.lt_of_lt_of_le hol hX.size) (fun e=>?_)).trans ((hX.block ob hol).trans h.out)
  obtain ⟨_,_,cs,hcs⟩:=hold ob e.symm;rw [h.out] at hcs; injection hcs with hcs; injection hcs with _ hcs _; exact absurd hcs (by decide)
 have hsz:wf.heap.size=w6.heap.size:=by rcases hwf with rfl | rfl <;> simp [Gy]
 have hoth:∀ k,k≠ob→k≠g→wf.heap[k]?=w6.heap[k]?:=fun k h1 h2=>by
  rcases hwf with rfl | rfl
  ·exact (Below.heap_setCell _ ⟨ob,0,none⟩ _ k h1).trans (lW h2)
  ·exact (lW h2).trans (Below.heap_setCell _ ⟨ob,0,none⟩ _ k h1)
 have hout:wf.heap[ob]?=some (.cells #[.slice (some ⟨g,0,none⟩) (m+1) cap] 24 (0,0)):=by
  rcases hwf with rfl | rfl
  ·have:=kE ((lW (w:=w6) (o:=m * 6) (h:=y5.h) P7).trans Xv) 0 (.slice (some ⟨g,0,none⟩) (m+1) cap)
   simpa using this
  ·refine (lW P7).trans ?_
   have:=kE Xv 0 (.slice (some ⟨g,0,none⟩) (m+1) cap)
   simpa using this
 have hrow':wf.ownsRow w0.heap.size 26 6 (.slice (some ⟨g,0,none⟩) (m+1) cap) (m+1) (bJ (ys++[y5])):=by
  rcases hwf with rfl | rfl
  ·refine O7 ?_ (Below.heap_setCell _ ⟨ob,0,none⟩ _ g (fun e=>P7 e.symm))
   rw [h.len.1]
   have:=zC (by rw [h.len.1] at hrow; exact hrow) y5
   exact this
  ·rw [h.len.1]
   exact zC (O7 (by rw [h.len.1] at hrow; exact hrow) (Below.heap_setCell _ ⟨ob,0,none⟩ _ g (fun e=>P7 e.symm))) y5
 have hb6:Below w0.heap.size w0 w6:=((h.bel.trans (hX.mono h.bel.size))).grown hgr (Nat.le_trans h.bel.size hX.size) (fun k hk=>(hold k hk).2.1);have Tn:∀ w,Below w0.heap.size w0 w→Below w0.heap.size w0 (putAt w g (m * 6) y5.h):=fun w hb=>by
  unfold putAt;exact (((((hb.setCell (p:=⟨g,_,none⟩) hg0 _).setCell (p:=⟨g,_,none⟩) hg0 _).setCell (p:=⟨g,_,none⟩) hg0 _).setCell (p:=⟨g,_,none⟩) hg0 _).setCell (p:=⟨g,_,none⟩) hg0 _).setCell (p:=⟨g,_,none⟩) hg0 _
 have hbel:Below w0.heap.size w0 wf:=by
  rcases hwf with rfl | rfl
  ·exact (Tn _ hb6).setCell (p:=⟨ob,0,none⟩) h.ob0.1 _
  ·exact Tn _ (hb6.setCell (p:=⟨ob,0,none⟩) h.ob0.1 _)
 have hXs:=hX.size;have h6s:=hgr.size;have hkeep:∀ b,b < wX.heap.size→b≠ob→(Value.slice q m c).ownBlock≠some b→wf.heap[b]?=wX.heap[b]?:=fun b h1 h2 h3=>by
  refine (hoth b h2 ?_).trans (hgr.block b h1 fun e=>h3 e.symm)
  rcases hg with hg | hg
  ·rintro rfl; exact h3 hg
  ·omega
 refine ⟨?_,by omega,fun b hpb hbl=>(hkeep b (by omega) (fun e=>h.ob0.2 (e ▸ hpb)) (fun e=>h.nrow b e hpb)).trans (hX.block b hbl)⟩
 refine ⟨hbel,h.pl,h.ob0,hout,hrow',fun g' hg'=>?_,⟨by simp [h.len.1],by have:=h.len.2; simp; omega⟩,fun z hz=>?_,by rw [List.map_append,h.tell]; simp [hy,hnt]⟩
 ·simp only [Value.ownBlock,Option.some.injEq] at hg'
  subst hg'
  rcases hg with hg | hg
  ·exact h.nrow _ hg
  ·intro hp; have:=hP _ hp; omega
 ·rcases List.mem_append.1 hz with hz | hz
  ·obtain ⟨N',M',h1,h2,h3,h4⟩:=h.cps z hz
   refine ⟨N',M',h1,by omega,fun b hb1 hb2=>⟨(h3 b hb1 hb2).1,(h3 b hb1 hb2).2.1,fun e=>?_⟩,fun w2 g1 g2=>h4 w2 g1 fun b hb1 hb2=>(g2 b hb1 hb2).trans ((hkeep b (by omega) (h3 b hb1 hb2).2.1 (h3 b hb1 hb2).2.2).trans (hX.block b (by omega)))⟩
   simp only [Value.ownBlock,Option.some.injEq] at e;subst e
   rcases hg with hg | hg
   ·exact (h3 _ hb1 hb2).2.2 hg
   ·omega
  ·rw [List.mem_singleton.1 hz]
   refine ⟨N,M,Nat.le_trans h.bel.size hN,by omega,fun b hb1 hb2=>⟨fun hp=>by have:=hP b hp; omega,by omega,fun e=>?_⟩,fun w2 g1 g2=>hfp w2 g1 fun b hb1 hb2=>(g2 b hb1 hb2).trans (hkeep b (by omega) (by omega) (fun e=>by have:=(hold b e).1; omega))⟩
   simp only [Value.ownBlock,Option.some.injEq] at e;subst e
   rcases hg with hg | hg
   ·have:=(hold _ hg).1; omega
   ·omega
def AlI (w0:World) (ob:Nat) (sel:Int→Bool) (l:List Br) (P:Nat→Prop) (w:World):Prop:=∃ q m c ys,AlS w0 ob sel l P w q m c ys
theorem AlI.mk {w0 w:World} {ob:Nat} {sel:Int→Bool} {l:List Br} {P:Nat→Prop} {q:Option Addr} {m c:Nat} {ys:List Br} (h:AlS w0 ob sel l P w q m c ys):AlI w0 ob sel l P w:=⟨q,m,c,ys,h⟩
theorem jO.trans {P:Nat→Prop} {a b c:World} (h:jO P a b) (k:jO P b c):jO P a c:=⟨Nat.le_trans h.size k.size,fun x hp hx=>(k.blk x hp (Nat.lt_of_lt_of_le hx h.size)).trans (h.blk x hp hx)⟩
theorem zN:∀ u ∈ ([.int .i64 0,.int .i64 0,.int .i64 0,.int .i64 0,.slice none 0 0,.slice none 0 0]:List Value),u.oneCell'=true:=fun u hu=>by
 simp only [List.mem_cons,List.not_mem_nil,or_false] at hu
 rcases hu with rfl | rfl | rfl | rfl | rfl | rfl <;> rfl
theorem Hy {wa w5 w2:World} {o:Obj} (h:Agr (wa.heap.size+1) w5 w2):Agr ((wa.alloc o).drew).heap.size w5 w2:=by
 have:((wa.alloc o).drew).heap.size=wa.heap.size+1:=by show (wa.alloc o).heap.size=_; simp
 rw [this]; exact h
theorem fU {w:World} {B g n cap m:Nat} {ys:List Br} (h:w.ownsRow B 26 6 (.slice (some ⟨g,0,none⟩) n cap) n (bJ ys++[.int .i64 0,.int .i64 0,.int .i64 0,.int .i64 0,.slice none 0 0,.slice none 0 0])) (hm:m=ys.length) (r:Nat) (u:Value) (hu:([.int .i64 0,.int .i64 0,.int .i64 0,.int .i64 0,.slice none 0 0,.slice none 0 0]:List Value)[r]?=some u):w.cell? ⟨g,m * 6+r,none⟩=some u:=by
 subst hm;refine xU h _ _ ?_
 rw [List.getElem?_append_right (by rw [ik]; omega),ik,Nat.add_sub_cancel_left];exact hu
theorem D9 {w0 wa wX w6:World} {ob:Nat} {sel:Int→Bool} {l:List Br} {P:Nat→Prop} {q:Option Addr} {m c:Nat} {ys:List Br} (h:AlS w0 ob sel l P wa q m c ys) (hX:Below wa.heap.size wa wX) (hgr:wX.grownBy w6 (Value.slice q m c).ownBlock):w6.heap[ob]?=some (.cells #[.slice q m c] 24 (0,0)):=by
 have hol:=hlt h.out;refine (hgr.block ob (Nat.lt_of_lt_of_le hol hX.size) (fun e=>?_)).trans ((hX.block ob hol).trans h.out)
 obtain ⟨_,⟨h0,_⟩ | ⟨g',cc,cur,hv,hg',hh,hr⟩⟩:=h.row
 ·rw [h0] at e; simp [Value.ownBlock] at e
 ·have:g'=ob:=by rw [hv] at e; simpa [Value.ownBlock] using e.symm
  subst this;rw [h.out] at hh; injection hh with hh; injection hh with _ hh _; exact absurd hh (by decide)
theorem row_ne {w:World} {B g n cap ob:Nat} {xs:List Value} {x:Value} (h:w.ownsRow B 26 6 (.slice (some ⟨g,0,none⟩) n cap) n xs) (ho:w.heap[ob]?=some (.cells #[x] 24 (0,0))):g≠ob:=by
 rintro rfl;obtain ⟨_,⟨h0,_⟩ | ⟨g',cc,cur,hv,hg',hh,hr⟩⟩:=h
 ·cases h0
 ·have:g'=g:=by simp only [Value.slice.injEq,Option.some.injEq,Addr.mk.injEq] at hv; exact hv.1.1.symm
  subst this;rw [ho] at hh; injection hh with hh; injection hh with _ hh _; exact absurd hh (by decide)
set_option maxHeartbeats 16000000 in
theorem Gs (w0 w:World) (kb ob:Nat) (kp:Option Addr) (kn kc:Nat) (sel:Int→Bool) (l:List Br) (P:Nat→Prop) (e:BA) (hI:AlI w0 ob sel l P w) (hP:∀ b,P b→b < w.heap.size) (hg:e.Good w0) (hf:e.y.Few) (hfl:e.y.flatB.length≤10000000) (hll:l.length≤10000000)
  (hkb:kb < w0.heap.size) (hkc:w0.cell? ⟨kb,0,none⟩=some (.slice kp kn kc)) (h0:kn=0→∀ v,sel v=true)
  (LX:kn≠0→∀ (v:Int) (W:World),Below w0.heap.size w0 W→Calls prog 59 #[.slice kp kn kc,.int .i64 v] W fun x w'=>x=.returned (.bool (sel v))∧∃ d,w'=W.drewN d) :
  Calls prog 58 #[.pointer (some e.ad),.pointer (some ⟨kb,0,none⟩),.pointer (some ⟨ob,0,none⟩)] w fun x w'=>x=.returned (.tuple #[])∧AlI w0 ob sel (l++[e.y]) P w'∧jO P w w':=by
 obtain ⟨i26,E8,hz0,hz1,hz2⟩:∃ i26,prog.info? 26=some i26∧i26.zero=some (.agg #[.int .i64 0,.int .i64 0,.int .i64 0,.int .i64 0,.slice none 0 0,.slice none 0 0])∧i26.size=6∧i26.bytes=80:=by
  refine ⟨_,rfl,?_,?_,?_⟩ <;> kernel_rfl
 obtain ⟨q,m,c,ys,hA⟩:=hI;have HA:=hid hA;have HP:=hid hP;have HG:=hid hg;have HF:=hid hf;have YL:=hid hfl;have c0:w.cell? ⟨e.b,e.o,none⟩=some (.int .i64 e.y.h.k):=(hA.bel.cell (p:=⟨e.b,_,none⟩) hg.lt).trans hg.at_.1;have k0:w.cell? ⟨kb,0,none⟩=some (.slice kp kn kc):=(hA.bel.cell (p:=⟨kb,_,none⟩) hkb).trans hkc;have hfc:kn≠0→∀ d,Calls prog 59 #[.slice kp kn kc,.int .i64 e.y.h.k] (w.drewN d) fun x w'=>x=.returned (.bool (sel e.y.h.k))∧∃ m,w'=w.drewN m:=fun hk d=>by
  refine (LX hk e.y.h.k (w.drewN d) (below_drewN hA.bel d)).mono ?_
  rintro x w' ⟨h1,d',h2⟩;exact ⟨h1,d+d',by rw [h2,World.drewN_drewN]⟩
 have h0':=h0;obtain ⟨b,hb⟩:∃ b,b=sel e.y.h.k:=⟨_,rfl⟩
 rw [← hb] at hfc;have Pn:=hid hb;have hmm:m≤10000000:=by have:=hA.len.2; omega
 have HZ0:Hid (kn=0→b=true):=hid fun h=>by rw [hb]; exact h0 h _
 have hln:∀ (W:World) (q:Option Addr) (n c:Nat),(Builtin.len_ #[23] 3 #[.slice q n c]).run prog W=.ok (.int .i64 n) W:=fun W q n c=>rfl
 have adX:∀ (W:World) (q:Option Addr) (n c:Nat),(Builtin.len_ #[24] 3 #[.slice q n c]).run prog W=.ok (.int .i64 n) W:=fun W q n c=>rfl
 clear hA hP hg hf hfl hkb hkc h0 LX h0' hb hll;obtain ⟨y,eb,eo⟩:=e;dsimp only [BA.ad] at *
 generalize hyk:y.h.k=kk at c0 hfc
 go_enter func58,ntmps58
 go_upto_region 0 with fail
 go_cut [14] from 4 to 14 (fun s14 wx=>s14=.bool b∧Hid (Below w.heap.size w wx))
 case first =>
  by_cases hk0:kn=0
  ·have hbt:b=true:=HZ0.out hk0
   subst hbt;subst hk0;clear hfc
   go_quiet (fail)
   go_wp2_with fail
   go_meet
   exact ⟨rfl,hid (by first | exact below_drewN (Below.refl _ _) _ | exact below_drewN (below_drewN (Below.refl _ _) _) _)⟩
  ·have hfc':=hfc hk0
   have ht:((kn:Int) == 0)=false:=by simp; omega
   clear hfc hk0
   go_quiet (first | (with_reducible exact hfc' _))
   go_wp2_with fail
   go_meet
   exact ⟨rfl,hid (by first | exact below_drewN (Below.refl _ _) _ | exact below_drewN (below_drewN (Below.refl _ _) _) _)⟩
 case rest =>
  obtain ⟨rfl,HBc⟩:=hcut;obtain ⟨wa,hwa⟩:∃ wa,wa=wc:=⟨_,rfl⟩
  subst hwa;have G5:=hid (HA.out.move (HA.out.bel.trans (HBc.out.mono HA.out.bel.size)) HBc.out.size (fun b hb _=>HBc.out.block b hb) (fun b h=>.inl h));have YM:Hid (∀ b,P b→b < wa.heap.size):=hid fun b h=>Nat.lt_of_lt_of_le (HP.out b h) HBc.out.size
  have HKc:Hid (jO P w wa):=hid ⟨HBc.out.size,fun b _ hb=>HBc.out.block b hb⟩;clear c0 k0 hfc HZ0 HA HP hyk
  cases b with
  | false =>
   have zT:=hid (G5.out.skip (y:=y) Pn.out.symm)
   go_wp2_with fail
   go_end0
   exact ⟨rfl,⟨q,m,c,ys,zT.out⟩,HKc.out⟩
  | true =>
   have x0:wa.drew.cell? ⟨ob,0,none⟩=some (.slice q m c):=by
    have hc:=cell_of_heap G5.out.out;exact (hc 0).trans rfl
   have xw:wa.cell? ⟨ob,0,none⟩=some (.slice q m c):=x0;have hob:=hlt G5.out.out;have hab:=G5.out.bel.size;have Xw:Hid (∀ W,Below wa.heap.size wa W→Calls prog 60 #[.pointer (some ⟨eb,eo,none⟩)] W (H6 W y)):=hid fun W hW=>by
    have hw:=G5.out.bel.trans (hW.mono hab);have hG:=HG.out.step hw;exact Ri y eb eo W hG.at_ hG.lt hG.lies HF.out YL.out
   have KN:Hid (Below wa.heap.size wa wa.drew):=hid (Below.refl _ _).drew;have HBz:Hid (Below wa.heap.size wa (wa.alloc (.cells #[.int .i64 0,.int .i64 0,.int .i64 0,.int .i64 0,.slice none 0 0,.slice none 0 0] 26)).drew):=hid ((Below.refl _ _).alloc (Nat.le_refl _) _).drew;have EU:Hid (m=ys.length):=hid G5.out.len.1;have r1:(0:Int)≤(m:Int):=by omega
   have r2:(m:Int) < (m:Int)+1:=by omega
   go_wp2_with fail
   go_region_law (first
    | (go_simp; go_at_call 60; (with_reducible refine Calls.mono (Xw.out _ HBz.out) ?_); rintro x w5 ⟨y5,rfl,hfp,hnt,hb5⟩; have Pm:=hid hnt; have Xx:=hid hfp; have nJ:=hid (HBz.out.trans (hb5.mono HBz.out.size)); have lJ:=hid (row_step G5.out.row nJ.out); have hw5:wa.heap.size≤w5.heap.size:=nJ.out.size; have ho5:ob < w5.heap.size:=Nat.lt_of_lt_of_le hob hw5; have x5:w5.cell? ⟨ob,0,none⟩=some (.slice q m c):=(nJ.out.cell (p:=⟨ob,0,none⟩) hob).trans x0; simp only [Hd.val]; have Xy:=hid ((hb5.block wa.heap.size (by show wa.heap.size < (wa.alloc (.cells #[.int .i64 0,.int .i64 0,.int .i64 0,.int .i64 0,.slice none 0 0,.slice none 0 0] 26)).heap.size; simp)).trans (heap_alloc_new wa (.cells #[.int .i64 0,.int .i64 0,.int .i64 0,.int .i64 0,.slice none 0 0,.slice none 0 0] 26))); clear hfp hnt hb5)
    | (go_simp; go_at_call 60; (with_reducible refine Calls.mono (Xw.out _ KN.out) ?_); rintro x w5 ⟨y5,rfl,hfp,hnt,hb5⟩; have Pm:=hid hnt; have Xx:=hid hfp; have nJ:=hid (KN.out.trans (hb5.mono KN.out.size)); have lJ:=hid (row_step G5.out.row nJ.out); have hw5:wa.heap.size≤w5.heap.size:=nJ.out.size; have ho5:ob < w5.heap.size:=Nat.lt_of_lt_of_le hob hw5; have x5:w5.cell? ⟨ob,0,none⟩=some (.slice q m c):=(nJ.out.cell (p:=⟨ob,0,none⟩) hob).trans x0; simp only [Hd.val]; clear hfp hnt hb5)
    | (have hx:=Xy.out; clear hx; refine step_append_lies _ (by rfl) _ _ _ (by rfl) w0.heap.size 26 i26 _ 6 80 underlying24 E8 hz0 hz1 hz2 rfl (by decide) _ _ _ (by rfl) lJ.out ⟨wa.heap.size,0,none⟩ 1 1 [.int .i64 0,.int .i64 0,.int .i64 0,.int .i64 0,.slice none 0 0,.slice none 0 0] (by rfl) (by rfl) (World.news_of_block (cs:=#[.int .i64 0,.int .i64 0,.int .i64 0,.int .i64 0,.slice none 0 0,.slice none 0 0]) (t:=26) (fr:=(0,0)) Xy.out) zN (by omega) (by unfold maxLen; omega) (by omega) (by omega) w5.heap.size rfl ?_; intro gg cap w6 hown hgrow hat PP; have Ul:=hid (G5.out.fin (wX:=w5) (N:=wa.heap.size+1) (M:=w5.heap.size) (y:=y) YM.out nJ.out (by omega) (Nat.le_refl _) (G9 (fun w2 h2=>Xx.out w2 (Hy h2)) (Below.refl _ _)) hgrow hat hown (.inl rfl) Pm.out Pn.out.symm); have HF2:=hid (G5.out.fin (wX:=w5) (N:=wa.heap.size+1) (M:=w5.heap.size) (y:=y) YM.out nJ.out (by omega) (Nat.le_refl _) (G9 (fun w2 h2=>Xx.out w2 (Hy h2)) (Below.refl _ _)) hgrow hat hown (.inr rfl) Pm.out Pn.out.symm); simp only [putAt] at Ul HF2; have LK:=D9 G5.out nJ.out hgrow; have Uy:gg≠ob:=row_ne hown LK; have hgne':ob≠gg:=fun e=>Uy e.symm; have hc6:=cell_of_heap LK; have x6:w6.cell? ⟨ob,0,none⟩=some (.slice q m c):=(hc6 0).trans rfl; have f6:w6.frozen? ⟨ob,0,none⟩=false:=(by simp [World.frozen?,LK]); have z0:w6.cell? ⟨gg,m * 6,none⟩=some (.int .i64 0):=fU hown EU.out 0 _ rfl; have z1:=fU hown EU.out 1 _ rfl; have z2:=fU hown EU.out 2 _ rfl; have z3:=fU hown EU.out 3 _ rfl; have z4:=fU hown EU.out 4 _ rfl; have z5:=fU hown EU.out 5 _ rfl; have g0:=World.ownsRow.frozenAt hown (m * 6); have g1:=World.ownsRow.frozenAt hown (m * 6+1); have g2:=World.ownsRow.frozenAt hown (m * 6+2); have g3:=World.ownsRow.frozenAt hown (m * 6+3); have g4:=World.ownsRow.frozenAt hown (m * 6+4); have g5:=World.ownsRow.frozenAt hown (m * 6+5); clear hown hgrow hat LK hc6)
    | (refine step_append_lies _ (by rfl) _ _ _ (by rfl) w0.heap.size 26 i26 _ 6 80 underlying24 E8 hz0 hz1 hz2 rfl (by decide) _ _ _ (by rfl) (World.ownsRow.alloc lJ.out _) ⟨w5.heap.size,0,none⟩ 1 1 [.int .i64 0,.int .i64 0,.int .i64 0,.int .i64 0,.slice none 0 0,.slice none 0 0] (by rfl) (by rfl) (World.news_of_block (cs:=#[.int .i64 0,.int .i64 0,.int .i64 0,.int .i64 0,.slice none 0 0,.slice none 0 0]) (t:=26) (fr:=(0,0)) (heap_alloc_new _ _)) zN (by omega) (by unfold maxLen; omega) (by omega) (by simp; omega) (w5.heap.size+1) (by simp) ?_; intro gg cap w6 hown hgrow hat PP; have Ul:=hid (G5.out.fin (wX:=w5.alloc (.cells #[.int .i64 0,.int .i64 0,.int .i64 0,.int .i64 0,.slice none 0 0,.slice none 0 0] 26)) (N:=wa.heap.size) (M:=w5.heap.size) (y:=y) YM.out (nJ.out.trans (((Below.refl _ _).alloc (Nat.le_refl _) _).mono hw5)) (Nat.le_refl _) (by simp) (G9 Xx.out ((Below.refl _ _).alloc (Nat.le_refl _) _)) hgrow (by simpa using hat) hown (.inl rfl) Pm.out Pn.out.symm); have HF2:=hid (G5.out.fin (wX:=w5.alloc (.cells #[.int .i64 0,.int .i64 0,.int .i64 0,.int .i64 0,.slice none 0 0,.slice none 0 0] 26)) (N:=wa.heap.size) (M:=w5.heap.size) (y:=y) YM.out (nJ.out.trans (((Below.refl _ _).alloc (Nat.le_refl _) _).mono hw5)) (Nat.le_refl _) (by simp) (G9 Xx.out ((Below.refl _ _).alloc (Nat.le_refl _) _)) hgrow (by simpa using hat) hown (.inr rfl) Pm.out Pn.out.symm); simp only [putAt] at Ul HF2; have LK:=D9 G5.out (nJ.out.trans (((Below.refl _ _).alloc (Nat.le_refl _) _).mono hw5)) hgrow; have Uy:gg≠ob:=row_ne hown LK; have hgne':ob≠gg:=fun e=>Uy e.symm; have hc6:=cell_of_heap LK; have x6:w6.cell? ⟨ob,0,none⟩=some (.slice q m c):=(hc6 0).trans rfl; have f6:w6.frozen? ⟨ob,0,none⟩=false:=(by simp [World.frozen?,LK]); have z0:w6.cell? ⟨gg,m * 6,none⟩=some (.int .i64 0):=fU hown EU.out 0 _ rfl; have z1:=fU hown EU.out 1 _ rfl; have z2:=fU hown EU.out 2 _ rfl; have z3:=fU hown EU.out 3 _ rfl; have z4:=fU hown EU.out 4 _ rfl; have z5:=fU hown EU.out 5 _ rfl; have g0:=World.ownsRow.frozenAt hown (m * 6); have g1:=World.ownsRow.frozenAt hown (m * 6+1); have g2:=World.ownsRow.frozenAt hown (m * 6+2); have g3:=World.ownsRow.frozenAt hown (m * 6+3); have g4:=World.ownsRow.frozenAt hown (m * 6+4); have g5:=World.ownsRow.frozenAt hown (m * 6+5); clear hown hgrow hat LK hc6))
   all_goals (
    go_wp2_with fail
    go_end0
    first
     | with_reducible exact ⟨rfl,AlI.mk Ul.out.1,HKc.out.trans Ul.out.2⟩
     | with_reducible exact ⟨rfl,AlI.mk HF2.out.1,HKc.out.trans HF2.out.2⟩
     | (trace_state; fail))
theorem aaT (args:Array Value) (w:World):Sem.run prog (callFunc 58 args) w=.ok (.enter 58 args) w:=bu func58 (by kernel_rfl) (by kernel_rfl) args w
def Hu (w:World) (nd:Br) (sel:Int→Bool) (x:Ending) (w':World):Prop :=
 ∃ (q:Option Addr) (m c:Nat) (ys:List Br),x=.returned (.slice q m c)∧w'.ownsRow w.heap.size 26 6 (.slice q m c) m (bJ ys)∧m=ys.length∧(∀ y ∈ ys,∀ w2,Agr w.heap.size w' w2→y.Lies w2)∧ys.map Br.ntr=(nd.flatB.filter fun y=>sel y.h.k).map Br.ntr∧Below w.heap.size w w'
set_option maxHeartbeats 8000000 in
theorem RD (nd:Br) (w:World) (hl:nd.Lies w) (hf:nd.Few) (hn:nd.flatB.length≤10000000) (kp:Option Addr) (kn kc:Nat) (sel:Int→Bool) (h0:kn=0→∀ v,sel v=true)
  (LX:kn≠0→∀ (v:Int) (W:World),Below w.heap.size w W→Calls prog 59 #[.slice kp kn kc,.int .i64 v] W fun x w'=>x=.returned (.bool (sel v))∧∃ d,w'=W.drewN d) :
  Calls prog 24 #[nd.h.val,.slice kp kn kc] w (Hu w nd sel):=by
 have HE:Hid (∀ B1 B2 wS:World,B1=w.alloc (.cells #[.int .i64 nd.h.k,.int .i64 nd.h.m,.int .i64 nd.h.f,.int .i64 nd.h.t,.slice nd.h.np nd.h.nn nd.h.nc,.slice nd.h.kp nd.h.kn nd.h.kc] 26)→B2=B1.alloc (.cells #[.slice kp kn kc] 23)→wS=B2.alloc (.cells #[.slice none 0 0] 24) →
   Calls prog 57 #[.pointer (some ⟨w.heap.size,0,none⟩),.func (.func 58) #[] #[.pointer (some ⟨w.heap.size+1,0,none⟩),.pointer (some ⟨w.heap.size+1+1,0,none⟩)]] wS fun x w'=>x=.returned (.tuple #[])∧∃ (q:Option Addr) (m c:Nat) (ys:List Br),w'.cell? ⟨w.heap.size+1+1,0,none⟩=some (.slice q m c) ∧
    w'.ownsRow w.heap.size 26 6 (.slice q m c) m (bJ ys)∧m=ys.length∧(∀ y ∈ ys,∀ w2,Agr w.heap.size w' w2→y.Lies w2)∧ys.map Br.ntr=(nd.flatB.filter fun y=>sel y.h.k).map Br.ntr∧Below w.heap.size w w'):=hid fun B1 B2 wS hB1 hB2 hS=>by
  have hg:=MC nd w hl 26;rw [← hB1] at hg;have hb1:Below w.heap.size w B1:=by rw [hB1]; exact (Below.refl _ _).alloc (Nat.le_refl _) _
  have hz1:B1.heap.size=w.heap.size+1:=by rw [hB1]; simp
  have hb2:Below B1.heap.size B1 B2:=by rw [hB2]; exact (Below.refl _ _).alloc (Nat.le_refl _) _
  have hz2:B2.heap.size=w.heap.size+1+1:=by rw [hB2]; simp [hz1]
  have hk2:B2.heap[w.heap.size+1]?=some (.cells #[.slice kp kn kc] 23 (0,0)):=by rw [hB2,← hz1]; exact heap_alloc_new _ _
  have hbS:Below B2.heap.size B2 wS:=by rw [hS]; exact (Below.refl _ _).alloc (Nat.le_refl _) _
  have hzS:wS.heap.size=w.heap.size+1+1+1:=by rw [hS]; simp [hz2]
  have SQ:wS.heap[w.heap.size+1+1]?=some (.cells #[.slice none 0 0] 24 (0,0)):=by rw [hS,← hz2]; exact heap_alloc_new _ _
  have Uz:Below w.heap.size w B2:=hb1.trans (hb2.mono (by omega));have hg2:BA.Good ⟨nd,w.heap.size,0⟩ B2:=hg.step hb2;have hkc:B2.cell? ⟨w.heap.size+1,0,none⟩=some (.slice kp kn kc):=by have hc:=cell_of_heap hk2; exact (hc 0).trans rfl
  refine (FV ⟨nd,w.heap.size,0⟩ B2 wS hg2 hn 58 #[.pointer (some ⟨w.heap.size+1,0,none⟩),.pointer (some ⟨w.heap.size+1+1,0,none⟩)] aaT
   (fun l P w1=>AlI B2 (w.heap.size+1+1) sel l P w1) ?_ ?_ ?_ ?_).mono ?_
  ·rintro l P w1 w2 P' ⟨q,m,c,ys,h1⟩ LD hp
   exact ⟨q,m,c,ys,h1.move (LD.below (Nat.le_refl _) h1.bel h1.pl) LD.size (fun b hb hP=>LD.blk b hb hP) hp⟩
  ·rintro l P w1 ⟨q,m,c,ys,h1⟩
   exact h1.bel
  ·rintro l e r P w1 hA hP hge hle
   have hmem:e.y ∈ nd.flatB:=by rw [← hle]; simp
   obtain ⟨hfe,hfl⟩:=OM nd hf e.y hmem;have hll:l.length≤10000000:=by have:=congrArg List.length hle; simp only [List.length_append,List.length_cons] at this; omega
   exact Gs B2 w1 (w.heap.size+1) (w.heap.size+1+1) kp kn kc sel l P e hA hP hge hfe (by omega) hll (by omega) hkc h0 (fun hk v W hW=>LX hk v W (Uz.trans (hW.mono Uz.size)))
  ·intro w' P hw hp
   refine ⟨none,0,0,[],⟨hbS.trans (hw.mono (by omega)),fun b hb=>by have:=hp b hb; omega,⟨by omega,fun h=>by have:=hp _ h; omega⟩,(hw.block _ (by omega)).trans SQ,World.ownsRow_nil _ _ _ _,fun g hg=>by simp [Value.ownBlock] at hg,⟨rfl,by simp⟩,fun y hy=>by simp at hy,rfl⟩⟩
  ·rintro x w' ⟨rfl,P,q,m,c,ys,h1⟩
   have hc:=cell_of_heap h1.out;refine ⟨rfl,q,m,c,ys,(hc 0).trans rfl,pK h1.row (by omega),h1.len.1,fun y hy w2 hw2=>?_,h1.tell,Uz.trans (h1.bel.mono (by omega))⟩
   obtain ⟨N,M,g1,g2,_,g4⟩:=h1.cps y hy;exact g4 w2 (Nat.le_trans g2 hw2.1) fun b hb1 hb2=>hw2.2 b (by omega) (by omega)
 have hmf:∀ (fn:Fn) (first cap:Array Value) (w:World),(Instr.makeFunc fn first cap).run prog w=.ok (.func fn first cap) w:=fun _ _ _ _=>rfl
 clear hl hf hn h0 LX
 go_enter func24,ntmps24
 go_wp2_with fail
 refine (HE.out _ _ _ rfl rfl rfl).mono ?_
 rintro x w3 ⟨rfl,q,m,c,ys,hc,h1,h2,h3,h4,h5⟩;have H1:=hid h1;have H2:=hid h2;have H3:=hid h3;have H4:=hid h4;have H5:=hid h5;clear h1 h2 h3 h4 h5 HE
 go_wp2_with fail
 go_ret
 exact ⟨q,m,c,ys,rfl,H1.out,H2.out,H3.out,H4.out,H5.out⟩
def qi (o:Nat × Br):List Value:=.int .i64 (o.1:Nat) :: jU o.2.h
def ny (l:List (Nat × Br)):List Value:=l.flatMap qi
theorem yG (l:List (Nat × Br)) (o:Nat × Br):ny (l++[o])=ny l++qi o:=by simp [ny]
structure PN where
 pc:PC
 nd:Br
def isOpen (y:Br):Bool:=[(13:Int)].contains y.h.k
def tells (qs:List PN):Nat→List (Nat × Ntr)
 | 0=>[]
 | k+1=>tells qs k++(match qs[k]? with | some q=>((q.nd.flatB.filter isOpen).map fun y=>(k,y.ntr)) | none=>[])
def uK (w:World) (v:Value) (os:List (Nat × Br)):Prop:=∀ o ∈ os,∃ N M,M≤w.heap.size∧(∀ b,N≤b→b < M→v.ownBlock≠some b)∧Fp w N M o.2
theorem uK.step {w w':World} {v:Value} {os:List (Nat × Br)} (h:uK w v os) (hw:Below w.heap.size w w'):uK w' v os:=fun o ho=>by
 obtain ⟨N,M,h1,h2,h3⟩:=h o ho;exact ⟨N,M,Nat.le_trans h1 hw.size,h2,fun w2 g1 g2=>h3 w2 g1 fun b hb1 hb2=>(g2 b hb1 hb2).trans (hw.block b (by omega))⟩
theorem uK.lies {w:World} {v:Value} {os:List (Nat × Br)} (h:uK w v os):∀ o ∈ os,o.2.Lies w:=fun o ho=>by
 obtain ⟨N,M,h1,h2,h3⟩:=h o ho;exact h3 w h1 fun b _ _=>rfl
theorem uK.grown {w w':World} {v v':Value} {g:Nat} {os:List (Nat × Br)} (h:uK w v os) (hg:w.grownBy w' v.ownBlock) (hv:v'.ownBlock=some g) (hat:v.ownBlock=some g∨w.heap.size≤g):uK w' v' os:=fun o ho=>by
 obtain ⟨N,M,h1,h2,h3⟩:=h o ho;refine ⟨N,M,Nat.le_trans h1 hg.size,fun b hb1 hb2 e=>?_,fun w2 g1 g2=>h3 w2 g1 fun b hb1 hb2=>(g2 b hb1 hb2).trans (hg.block b (by omega) fun e=>h2 b hb1 hb2 e.symm)⟩
 rw [hv] at e
 cases e
 rcases hat with hat | hat
 ·exact h2 _ hb1 hb2 hat
 ·omega
theorem uK.snoc {w:World} {v:Value} {os:List (Nat × Br)} {k N M:Nat} {y:Br} (h:uK w v os) (h1:M≤w.heap.size) (h2:∀ b,N≤b→b < M→v.ownBlock≠some b) (h3:Fp w N M y):uK w v (os++[(k,y)]):=fun o ho=>by
 rcases List.mem_append.1 ho with ho | ho
 ·exact h o ho
 ·rw [List.mem_singleton.1 ho]; exact ⟨N,M,h1,h2,h3⟩
theorem O9 {w:World} {B E size n:Nat} {v:Value} {xs:List Value} (h:w.ownsRow B E size v n xs) (g:Nat) (hg:v.ownBlock=some g):B≤g∧g < w.heap.size:=by
 obtain ⟨_,⟨h0,_⟩ | ⟨g',c,cur,hv,hb,hh,_⟩⟩:=h
 ·rw [h0] at hg; simp [Value.ownBlock] at hg
 ·have:g'=g:=by rw [hv] at hg; simpa [Value.ownBlock] using hg
  subst this;exact ⟨hb,hlt hh⟩
theorem Ez (o:Nat × Br):∀ u ∈ qi o,u.oneCell'=true:=fun u hu=>by
 simp only [qi,jU,List.mem_cons,List.not_mem_nil,or_false] at hu
 rcases hu with rfl | rfl | rfl | rfl | rfl | rfl | rfl <;> rfl
theorem Agr.below {N:Nat} {w w1 w2:World} (h:Agr N w w1) (hb:Below w1.heap.size w1 w2):Agr N w w2:=⟨Nat.le_trans h.1 hb.size,fun k h1 h2=>(hb.block k (Nat.lt_of_lt_of_le h2 h.1)).trans (h.2 k h1 h2)⟩
theorem Agr.grown {N:Nat} {w w1 w2:World} {r:Option Nat} (h:Agr N w w1) (hg:w1.grownBy w2 r) (hr:∀ b,N≤b→b < w.heap.size→r≠some b):Agr N w w2:=⟨Nat.le_trans h.1 hg.size,fun k h1 h2=>(hg.block k (Nat.lt_of_lt_of_le h2 h.1) fun e=>hr k h1 h2 e.symm).trans (h.2 k h1 h2)⟩
def IB (W:World) (qs:List PN) (e:Ending) (W':World):Prop:=∃ (q:Option Addr) (n c:Nat) (os:List (Nat × Br)),e=.returned (.slice q n c)∧W'.ownsRow W.heap.size 81 7 (.slice q n c) n (ny os)∧n=os.length∧(∀ o ∈ os,o.2.Lies W')∧os.map (fun o=>(o.1,o.2.ntr))=tells qs qs.length∧Below W.heap.size W W'
set_option maxHeartbeats 8000000 in
theorem JE (W:World) (pu gp:Nat) (qs:List PN) (hu:UAt W pu gp (qs.map PN.pc)) (hq:∀ q ∈ qs,q.pc.h=q.nd.h∧q.nd.Lies W∧q.nd.Few∧q.nd.flatB.length≤1000000) (hL:qs.length≤1000) :
  Calls prog 44 #[.pointer (some ⟨pu,0,none⟩)] W (IB W qs):=by
 obtain ⟨i81,aao,hy0,hy1,hy2⟩:∃ i81,prog.info? 81=some i81∧i81.zero=some (.agg #[.int .i64 0,.int .i64 0,.int .i64 0,.int .i64 0,.int .i64 0,.slice none 0 0,.slice none 0 0])∧i81.size=7∧i81.bytes=88:=by
  refine ⟨_,rfl,?_,?_,?_⟩ <;> kernel_rfl
 have HA:=hid (tK W pu _ hu.u);have HU:=hid hu;have HQ:=hid hq;rw [List.length_map] at HA;clear hu hq;have hln:∀ (W:World) (q:Option Addr) (n c:Nat),(Builtin.len_ #[24] 3 #[.slice q n c]).run prog W=.ok (.int .i64 n) W:=fun W q n c=>rfl
 go_enter func44,ntmps44
 go_wp2_with fail
 refine HA.out.mono ?_
 rintro e w1 ⟨rfl,rfl⟩
 go_wp2_with fail
 go_loopw [3,11] (fun v i wr=>∃ (k:Nat) (q:Option Addr) (n c:Nat) (os:List (Nat × Br)),k≤qs.length∧i=.int .i64 k∧v=.slice q n c∧Hid (n=os.length∧n≤k * 1000000)∧Hid (wr.ownsRow W.heap.size 81 7 (.slice q n c) n (ny os))∧Hid (uK wr (.slice q n c) os∧os.map (fun o=>(o.1,o.2.ntr))=tells qs k)∧Hid (Below W.heap.size W wr)) (fun _ i _=>qs.length - (intOf i).toNat)
 case atStart=>exact ⟨0,none,0,0,[],by omega,rfl,rfl,hid ⟨rfl,by omega⟩,hid ⟨rfl,.inl ⟨rfl,rfl⟩⟩,hid ⟨fun o ho=>by simp at ho,rfl⟩,hid (Below.refl _ _)⟩
 case round =>
  obtain ⟨k,q0,n0,c0,os,hk,rfl,rfl,HN,HR,HO,HB⟩:=hrel
  by_cases hlt:k < qs.length
  ·obtain ⟨q,hqk⟩:∃ q,qs[k]?=some q:=⟨_,List.getElem?_eq_getElem hlt⟩
   have hpk:(qs.map PN.pc)[k]?=some q.pc:=by rw [List.getElem?_map,hqk]; rfl
   have hbw:=HB.out;obtain ⟨p0,p1,p2,p3,p4,p5,p6,p7,p8,p9⟩:=(HU.out.step hbw).part k q.pc hpk;have hqq:=HQ.out q (List.mem_of_getElem? hqk);have hsz:=hbw.size;have HQK:=hid hqk;obtain ⟨⟨⟨nm,tx⟩,hh,first,oa,m⟩,nd⟩:=q
   simp only at p0 p1 p2 p3 p4 p5 p6 p7 p8 p9 hqq
   obtain ⟨hhe,hnl,hnf,hnz⟩:=hqq;subst hhe;have Bq:=hid (And.intro hnl (And.intro hnf hnz));obtain ⟨WB,yC⟩:∃ WB,WB=wr.alloc (.cells #[.string nm,.string tx,.int .i64 nd.h.k,.int .i64 nd.h.m,.int .i64 nd.h.f,.int .i64 nd.h.t,.slice nd.h.np nd.h.nn nd.h.nc,.slice nd.h.kp nd.h.kn nd.h.kc,.int .i64 first,.slice (some ⟨oa,0,none⟩) m m] 132):=⟨_,rfl⟩
   have hb0:Below wr.heap.size wr WB:=by rw [yC]; exact (Below.refl _ _).alloc (Nat.le_refl _) _
   have hbc:∀ j:Nat,WB.cell? ⟨wr.heap.size,j,none⟩=(#[.string nm,.string tx,.int .i64 nd.h.k,.int .i64 nd.h.m,.int .i64 nd.h.f,.int .i64 nd.h.t,.slice nd.h.np nd.h.nn nd.h.nc,.slice nd.h.kp nd.h.kn nd.h.kc,.int .i64 first,.slice (some ⟨oa,0,none⟩) m m]:Array Value)[j]?:=fun j=>by rw [yC]; exact cell_of_heap (heap_alloc_new wr _) j
   have b2:WB.cell? ⟨wr.heap.size,2,none⟩=some (.int .i64 nd.h.k):=hbc 2;have b3:WB.cell? ⟨wr.heap.size,3,none⟩=some (.int .i64 nd.h.m):=hbc 3;have b4:WB.cell? ⟨wr.heap.size,4,none⟩=some (.int .i64 nd.h.f):=hbc 4;have b5:WB.cell? ⟨wr.heap.size,5,none⟩=some (.int .i64 nd.h.t):=hbc 5;have b6:WB.cell? ⟨wr.heap.size,6,none⟩=some (.slice nd.h.np nd.h.nn nd.h.nc):=hbc 6;have b7:WB.cell? ⟨wr.heap.size,7,none⟩=some (.slice nd.h.kp nd.h.kn nd.h.kc):=hbc 7;have Tf:=hid yC;have vG:=hid (hbw.trans (hb0.mono hsz));have HB0:=hid hb0;have EY:Hid (∀ WL,WL=WB.alloc (.cells #[.int .i64 13] 3)→Calls prog 24 #[.agg #[.int .i64 nd.h.k,.int .i64 nd.h.m,.int .i64 nd.h.f,.int .i64 nd.h.t,.slice nd.h.np nd.h.nn nd.h.nc,.slice nd.h.kp nd.h.kn nd.h.kc],.slice (some ⟨WB.heap.size,0,none⟩) 1 1] WL (Hu WL nd fun v=>[(13:Int)].contains v)):=hid fun WL UA=>by
    have hbl:Below WB.heap.size WB WL:=by rw [UA]; exact (Below.refl _ _).alloc (Nat.le_refl _) _
    have Ux:nd.Lies WL:=((Bq.out.1.step _ hbw).step _ hb0).step _ hbl;have hcell:WL.cell? ⟨WB.heap.size,0,none⟩=some (.int .i64 13):=by rw [UA]; exact (cell_of_heap (heap_alloc_new WB (.cells #[.int .i64 13] 3)) 0).trans rfl
    have hll:WB.heap.size < WL.heap.size:=by rw [UA]; simp
    refine RD nd WL Ux Bq.out.2.1 (by have:=Bq.out.2.2; omega) _ 1 1 (fun v=>[(13:Int)].contains v) (fun h=>by omega) (fun _ v W2 hW2=>?_)
    refine (CU [13] v WB.heap.size 1 W2 (fun i hi=>?_) (by simp) (by simp)).mono ?_
    ·have:i=0:=by simp at hi; omega
     subst this;exact (hW2.cell (p:=⟨WB.heap.size,0,none⟩) hll).trans hcell
    ·rintro x w' ⟨h1,rfl⟩
     exact ⟨h1,0,rfl⟩
   clear hbc hb0 hbw hpk hqk hnl hnf hnz yC
   go_upto_region 5 with (fail)
   rw [← Tf.out]
   go_wp2_with fail
   refine (EY.out _ rfl).mono ?_
   rintro x w5 ⟨q5,m5,c5,ys,rfl,h1,h2,h3,h4,h5⟩;obtain ⟨WL,UA⟩:∃ WL,WL=WB.alloc (.cells #[.int .i64 13] 3):=⟨_,rfl⟩
   rw [← UA] at h1 h3 h5;have hbl:Below WB.heap.size WB WL:=by rw [UA]; exact (Below.refl _ _).alloc (Nat.le_refl _) _
   have hwL:wr.heap.size≤WL.heap.size:=Nat.le_trans HB0.out.size hbl.size;have SX:=hid (((HB0.out.trans (hbl.mono HB0.out.size))).trans (h5.mono hwL));have HY:=hid (And.intro h3 h4);have HYR:=hid h1;have HML:=hid h2;have HL5:=hid h5.size;have lJ:=hid (row_step HR.out SX.out);have nJ:=hid (HB.out.trans (SX.out.mono HB.out.size));have HF5:=hid (HO.out.1.step SX.out);have HV5:Hid (∀ b,WL.heap.size≤b→b < w5.heap.size→(Value.slice q0 n0 c0).ownBlock≠some b):=hid fun b hb1 hb2 e=>by have:=O9 HR.out b e; omega
   have HM5:Hid (m5≤1000000∧k≤1000):=hid (by
    have h6:=congrArg List.length h4;rw [List.length_map,List.length_map] at h6;dsimp only at h6
    have h7:=List.length_filter_le (fun y:Br=>[(13:Int)].contains y.h.k) nd.flatB;have h8:=Bq.out.2.2
    omega)
   clear h1 h2 h3 h4 h5 UA hbl hwL b2 b3 b4 b5 b6 b7
   go_wp2_with fail
   obtain ⟨wo,hwo⟩:∃ wo,wo=wr:=⟨_,rfl⟩
   subst hwo
   go_loopw [3,21] (fun v i wr2=>∃ (j:Nat) (q:Option Addr) (n c:Nat),j≤m5∧i=.int .i64 j∧v=.slice q n c∧Hid (n≤k * 1000000+j)∧Hid (n=(os++(ys.take j).map fun y=>(k,y)).length)∧Hid (wr2.ownsRow W.heap.size 81 7 (.slice q n c) n (ny (os++(ys.take j).map fun y=>(k,y)))) ∧
     Hid (uK wr2 (.slice q n c) (os++(ys.take j).map fun y=>(k,y)))∧Hid (Agr WL.heap.size w5 wr2)∧Hid (Below W.heap.size W wr2)∧Hid (∀ b,WL.heap.size≤b→b < w5.heap.size→(Value.slice q n c).ownBlock≠some b)) (fun _ i _=>m5 - (intOf i).toNat)
   case atStart=>exact ⟨0,q0,n0,c0,by omega,rfl,rfl,hid (Nat.le_trans HN.out.2 (Nat.le_add_right _ _)),hid (by simpa using HN.out.1),hid (by simpa using lJ.out),hid (by simpa using HF5.out),hid ⟨Nat.le_refl _,fun _ _ _=>rfl⟩,nJ,HV5⟩
   case round =>
    obtain ⟨j,q,n,c,hj,rfl,rfl,HNJ,Td,HR2,HF2,HA2,HB2,V5⟩:=hrel
    by_cases hlj:j < m5
    ·obtain ⟨y,hyj⟩:∃ y,ys[j]?=some y:=⟨_,List.getElem?_eq_getElem (by have:=HML.out; omega)⟩
     have HYJ:=hid hyj;obtain ⟨gy,rfl,aar,Xz,hgc⟩:∃ gy,q5=some ⟨gy,0,none⟩∧WL.heap.size≤gy∧gy < w5.heap.size∧m5≤c5:=by
      obtain ⟨_,⟨_,h0⟩ | ⟨g',cc,cur,hv,hg,hh,hle,_⟩⟩:=HYR.out
      ·omega
      ·simp only [Value.slice.injEq] at hv
       obtain ⟨rfl,_,rfl⟩:=hv;exact ⟨g',rfl,hg,Go.Proofs.YtmpmfamiegpmgaaGreatDoor.hlt hh,hle⟩
     have hgs:wr.heap[gy]?=w5.heap[gy]?:=HA2.out.2 gy aar Xz;obtain ⟨y0,y1,y2,y3,y4,y5⟩:=(BN HYR.out j y hyj).same hgs;rw [Nat.zero_add] at y0 y1 y2 y3 y4 y5;have hg2:gy < wr.heap.size:=Nat.lt_of_lt_of_le Xz HA2.out.1;have r1:(0:Int)≤(j:Int):=by omega
     have r2:(j:Int) < (m5:Int):=by omega
     obtain ⟨os2,UB⟩:∃ os2,os2=os++(ys.take j).map fun y=>(k,y):=⟨_,rfl⟩
     rw [← UB] at Td HR2 HF2;have LG:Hid (os++(ys.take (j+1)).map (fun y=>(k,y))=os2++[(k,y)]):=hid (by rw [UB,List.take_add_one,HYJ.out]; simp);have qQ:=hid (((Below.refl wr.heap.size wr).alloc (Nat.le_refl _) (.cells #[.int .i64 y.h.k,.int .i64 y.h.m,.int .i64 y.h.f,.int .i64 y.h.t,.slice y.h.np y.h.nn y.h.nc,.slice y.h.kp y.h.kn y.h.kc] 26)).alloc (by simp) (.cells #[.int .i64 (k:Int),.int .i64 y.h.k,.int .i64 y.h.m,.int .i64 y.h.f,.int .i64 y.h.t,.slice y.h.np y.h.nn y.h.nc,.slice y.h.kp y.h.kn y.h.kc] 81));have hrow:=row_step HR2.out qQ.out;have Iu:=hid hrow;have aas:Hid (∀ jj u,(qi (k,y))[jj]?=some u→((wr.alloc (.cells #[.int .i64 y.h.k,.int .i64 y.h.m,.int .i64 y.h.f,.int .i64 y.h.t,.slice y.h.np y.h.nn y.h.nc,.slice y.h.kp y.h.kn y.h.kc] 26)).alloc (.cells #[.int .i64 (k:Int),.int .i64 y.h.k,.int .i64 y.h.m,.int .i64 y.h.f,.int .i64 y.h.t,.slice y.h.np y.h.nn y.h.nc,.slice y.h.kp y.h.kn y.h.kc] 81)).cell? ((⟨wr.heap.size+1,0,none⟩:Addr).add jj)=some u):=hid (by
      have hh:=heap_alloc_new (wr.alloc (.cells #[.int .i64 y.h.k,.int .i64 y.h.m,.int .i64 y.h.f,.int .i64 y.h.t,.slice y.h.np y.h.nn y.h.nc,.slice y.h.kp y.h.kn y.h.kc] 26)) (.cells #[.int .i64 (k:Int),.int .i64 y.h.k,.int .i64 y.h.m,.int .i64 y.h.f,.int .i64 y.h.t,.slice y.h.np y.h.nn y.h.nc,.slice y.h.kp y.h.kn y.h.kc] 81);have hz:(wr.alloc (.cells #[.int .i64 y.h.k,.int .i64 y.h.m,.int .i64 y.h.f,.int .i64 y.h.t,.slice y.h.np y.h.nn y.h.nc,.slice y.h.kp y.h.kn y.h.kc] 26)).heap.size=wr.heap.size+1:=by simp
      rw [hz] at hh;exact World.news_of_block hh)
     have XA:Hid (n+1≤2000000000):=hid (by have:=HNJ.out; have:=HM5.out; omega);have VB:Hid (W.heap.size≤wr.heap.size):=hid HB2.out.size;clear UB hrow hgs
     go_wp2_with (at_builtin; refine wpList_append_lies _ rfl _ _ 77 rfl W.heap.size 81 i81 _ 7 88 underlying77 aao hy0 hy1 hy2 rfl (by decide) _ _ _ rfl Iu.out ⟨_,0,none⟩ 1 1 (qi (k,y)) rfl rfl aas.out (Ez _) (by omega) (by have:=XA.out; unfold maxLen; omega) (by have:=XA.out; omega) (by have:=VB.out; simp; omega) (wr.heap.size+2) (by simp) ?_; intro gg cap w7 hown hgrow hat aat; have HOWN:=hid hown; have UC:=hid hgrow; have HAT:=hid hat; clear hown hgrow hat aat)
     have HXZ:Hid ((((wr.alloc (.cells #[.int .i64 y.h.k,.int .i64 y.h.m,.int .i64 y.h.f,.int .i64 y.h.t,.slice y.h.np y.h.nn y.h.nc,.slice y.h.kp y.h.kn y.h.kc] 26)).alloc (.cells #[.int .i64 (k:Int),.int .i64 y.h.k,.int .i64 y.h.m,.int .i64 y.h.f,.int .i64 y.h.t,.slice y.h.np y.h.nn y.h.nc,.slice y.h.kp y.h.kn y.h.kc] 81))).heap.size=wr.heap.size+2):=hid (by simp);have HAG:=hid ((HA2.out.below qQ.out).grown UC.out V5.out);have HVN:Hid (∀ b,WL.heap.size≤b→b < w5.heap.size→(Value.slice (some ⟨gg,0,none⟩) (n+1) cap).ownBlock≠some b):=hid fun b hb1 hb2 e=>by
      simp only [Value.ownBlock,Option.some.injEq] at e;subst e
      rcases HAT.out with h | h
      ·exact V5.out _ hb1 hb2 h
      ·have:=HA2.out.1; omega
     have HFN:=hid (((HF2.out.step qQ.out).grown (v':=.slice (some ⟨gg,0,none⟩) (n+1) cap) UC.out rfl (HAT.out.imp id fun h=>by rw [HXZ.out,h]; exact Nat.le_refl _)).snoc (k:=k) (N:=WL.heap.size) (M:=w5.heap.size) (y:=y) HAG.out.1 HVN.out (fun w2 g1 g2=>HY.out.1 y (List.mem_of_getElem? HYJ.out) w2 ⟨g1,fun b hb1 hb2=>(g2 b hb1 hb2).trans (HAG.out.2 b hb1 hb2)⟩));have HBN:=hid ((HB2.out.trans (qQ.out.mono HB2.out.size)).grown UC.out (Nat.le_trans HB2.out.size qQ.out.size) (fun g hg=>(O9 Iu.out g hg).1));have aav:Hid (n+1=(os2++[(k,y)]).length):=hid (by rw [List.length_append,← Td.out]; rfl);have HWR:Hid (wrap64 ((j:Int)+1)=(j:Int)+1):=hid (IntWalk.wrap64_in _ (by have:=HM5.out; omega));rw [HWR.out];have aaw:Hid (n+1≤k * 1000000+(j+1)):=hid (by have:=HNJ.out; omega)
     go_roundw
     case rel=>exact ⟨j+1,_,_,_,by omega,by go_num,rfl,aaw,hid (by rw [LG.out]; exact aav.out),hid (by rw [LG.out,yG]; exact HOWN.out),hid (by rw [LG.out]; exact HFN.out),HAG,HBN,HVN⟩
     case measure=>simp [intOf]; omega
    ·have hjm:j=m5:=by omega
     have E5:Hid (os++(ys.take j).map (fun y=>(k,y))=os++ys.map fun y=>(k,y)):=hid (by rw [hjm,HML.out,List.take_length]);have XB:Hid ((os++ys.map fun y=>(k,y)).map (fun o=>(o.1,o.2.ntr))=tells qs (k+1)):=hid (by
      rw [List.map_append,HO.out.2];simp only [tells,HQK.out];rw [List.map_map]
      have:=HY.out.2
      have e1:(ys.map ((fun o:Nat × Br=>(o.1,o.2.ntr)) ∘ fun y=>(k,y)))=(ys.map Br.ntr).map fun t=>(k,t):=by rw [List.map_map]; rfl
      rw [e1,this,List.map_map]
      rfl)
     rw [E5.out] at Td HR2 HF2;have Iq:Hid (n≤(k+1) * 1000000):=hid (by have:=HNJ.out; have:=HM5.out; omega);clear hjm E5
     go_wp2_with fail
     go_roundw
     case rel=>exact ⟨k+1,q,n,c,_,by omega,by go_num,rfl,hid ⟨Td.out,Iq.out⟩,HR2,hid ⟨HF2.out,XB.out⟩,HB2⟩
     case measure=>simp [intOf]; omega
  ·have hkn:k=qs.length:=by omega
   have HF:Hid ((∀ o ∈ os,o.2.Lies wr)∧os.map (fun o=>(o.1,o.2.ntr))=tells qs qs.length):=hid ⟨HO.out.1.lies,by rw [← hkn]; exact HO.out.2⟩;have hlt2:¬ (k:Int) < (qs.length:Int):=by omega
   clear hkn
   go_wp2_with fail
   go_ret
   exact ⟨q0,n0,c0,os,rfl,HR.out,HN.out.1,HF.out.1,HF.out.2,HB.out⟩
end Go.Proofs.YtmpmfamiegpmgaaGreatDoor
