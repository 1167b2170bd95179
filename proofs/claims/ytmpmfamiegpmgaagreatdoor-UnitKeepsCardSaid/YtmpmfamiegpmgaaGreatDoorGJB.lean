/-
  A node's copy in memory of its own (unit's own), walked.; unit's Nodes: a copy of each file's node; the statement's own looks whether two rows of nodes, or of occurrences, are the same.; The document's and the statement's looks whether two rows of occurrences, or of nodes, are the same: of the same they tell true.
-/
import Derived.Test.YtmpmfamiegpmgaaGreatDoorGJA
import Derived.Test.YtmpmfamiegpmgaaGreatDoorGF
import Derived.Deep.Cut
import Derived.Deep.CutRange
import Derived.Deep.AppendLies
import Derived.Test.YtmpmfamiegpmgaaGreatDoorGHD
import Derived.StillTailTactics
namespace Go.Proofs.YtmpmfamiegpmgaaGreatDoor
open Tryz
open Go.Lib (cell_of_heap hid)
open Go.RowKit
set_option maxRecDepth 20000
set_option linter.unusedVariables false
set_option linter.unusedSimpArgs false
theorem Qp {ε:Type} (sz:ε→Nat) (l:List ε):szs sz l.reverse=szs sz l:=by
 induction l with
 | nil=>rfl
 | cons x r ih=>rw [List.reverse_cons,oC,ih]; simp [szs]; omega
theorem Ow.perm {w0 w:World} {D st st':List BA} {P:Nat→Prop} (h:Ow w0 D st P w) (hp:st'.Perm st):Ow w0 D st' P w:=by
 have hm:∀ e,e ∈ D++st' ↔ e ∈ D++st:=fun e=>(List.Perm.append_left D hp).mem_iff
 refine ⟨h.bel,h.pl,fun e he=>h.blk e ((hm e).1 he),(((List.Perm.append_left D hp).map fun e=>(e.b,e.o)).nodup_iff).2 h.nodup,fun e he=>h.pend e (hp.mem_iff.1 he),fun e he=>(h.done e he).mono fun x hx=>(hm x).2 hx⟩
def Oi (w0:World) (root:BA) (st:List BA) (g:Nat) (w:World):Prop :=
 (∃ D,root ∈ D++st∧Ow w0 D st (fun b=>b=g) w)∧(∀ e ∈ st,e.y.Few)
def Oj (w0:World) (root e:BA) (hd:Hd) (kb:Nat) (st:List BA) (g:Nat) (w:World):Prop :=
 (∃ D,root ∈ D++(aT kb 0 e.y.ks++st)∧e ∈ D∧Ow w0 D (aT kb 0 e.y.ks++st) (fun b=>b=g) w)∧(∀ x ∈ aT kb 0 e.y.ks++st,x.y.Few) ∧
  dV w e.b e.o hd∧hd.kn=e.y.ks.length∧(hd.kn=0∨hd.kp=some ⟨kb,0,none⟩∧hd.kn≤hd.kc)
theorem Oj.move {w0 w w':World} {root e:BA} {hd:Hd} {kb:Nat} {st:List BA} {g g':Nat} (h:Oj w0 root e hd kb st g w) (hg:w.grownBy w' (some g)) (hb:w0.heap.size≤g) (hg':g'=g∨w.heap.size≤g'):Oj w0 root e hd kb st g' w':=by
 obtain ⟨⟨D,h1,h2,h3⟩,h4,h8,h9⟩:=h;obtain ⟨e1,e2,e3,⟨cs,e4⟩,e5⟩:=h3.blk e (List.mem_append_left _ h2);refine ⟨⟨D,h1,h2,h3.move ?_ (fun b o Rw Lr=>(hg.block b (hlt Rw) fun hc=>Lr (Option.some.inj hc)).trans Rw) ?_⟩,h4,h8.same (hg.block e.b (hlt e4) fun hc=>e2 (Option.some.inj hc)),h9⟩
 ·exact h3.bel.grown hg h3.bel.size fun a ha=>by cases ha; exact hb
 ·rintro b hq
  rcases hg' with h0 | hx
  ·exact .inl (hq.trans h0)
  ·exact .inr (by omega)
theorem Oj.next {w0 w:World} {root e:BA} {hd:Hd} {kb:Nat} {st:List BA} {g:Nat} (h:Oj w0 root e hd kb st g w):Oi w0 root ((aT kb 0 e.y.ks).reverse++st) g w:=by
 obtain ⟨⟨D,h1,h2,h3⟩,h4,h8,h9⟩:=h;have hp:((aT kb 0 e.y.ks).reverse++st).Perm (aT kb 0 e.y.ks++st):=List.Perm.append_right st (List.reverse_perm _);exact ⟨⟨D,(List.Perm.append_left D hp).mem_iff.2 h1,h3.perm hp⟩,fun x hx=>h4 x (hp.mem_iff.1 hx)⟩
theorem BH {y:Br} (h:y.Few):∀ k ∈ y.ks,k.Few:=by
 cases y with
 | mk h ks =>
  intro k hk;simp only [Br.ks] at hk;simp only [Br.Few] at h;exact (lu ks).1 h.2.2 k hk
theorem Oi.hand {w0 w wz:World} {root e:BA} {st:List BA} {g:Nat} {q1 q2:Option Addr} {d1 d2:Nat} (h:Oi w0 root (e :: st) g w) (hgl:g < w.heap.size) (hb:Below w.heap.size w wz)
  (ho1:wz.ownsRow w.heap.size 3 1 (.slice q1 e.y.h.nn d1) e.y.h.nn (e.y.h.ns.map mkI)) (ho2:wz.ownsRow w.heap.size 26 6 (.slice q2 e.y.h.kn d2) e.y.h.kn (bK e.y.ks)) :
  ∃ hd kb,Oj w0 root e hd kb st g (put2 wz e (.slice q1 e.y.h.nn d1) (.slice q2 e.y.h.kn d2))∧hd.kn=e.y.h.kn∧(put2 wz e (.slice q1 e.y.h.nn d1) (.slice q2 e.y.h.kn d2)).heap[g]?=w.heap[g]?∧w.heap.size≤(put2 wz e (.slice q1 e.y.h.nn d1) (.slice q2 e.y.h.kn d2)).heap.size:=by
 obtain ⟨⟨D,hr,hO⟩,hfw⟩:=h;have hz:Ow w0 D (e :: st) (fun b=>b=g) wz:=hO.move (hO.bel.trans (hb.mono hO.bel.size)) (fun b o h1 _=>(hb.block b (hlt h1)).trans h1) (fun b h=>.inl h);obtain ⟨e1,e2,e3,⟨cs,e4⟩,e5⟩:=hO.blk e (by simp);obtain ⟨hn,hk,_⟩:=(bW _ _).1 e5;obtain ⟨kb,h1,h2,h3⟩:=hz.hand (B:=w.heap.size) (fun x hx=>by obtain ⟨_,_,_,⟨cs,h⟩,_⟩:=hO.blk x hx; exact hlt h) (fun b hb=>by omega) hO.bel.size ho1 hn.1 ho2 hk.1;have hsz:w.heap.size≤(put2 wz e (.slice q1 e.y.h.nn d1) (.slice q2 e.y.h.kn d2)).heap.size:=Nat.le_trans hb.size (by simp [put2]);refine ⟨_,kb,⟨⟨e :: D,?_,by simp,h1⟩,?_,h2,hk.1,h3⟩,rfl,?_,hsz⟩
 ·simp only [List.mem_append,List.mem_cons] at hr ⊢
  rcases hr with h | h | h
  ·exact .inl (.inr h)
  ·exact .inl (.inl h)
  ·exact .inr (.inr h)
 ·intro x hx
  rcases List.mem_append.1 hx with hx | hx
  ·obtain ⟨i,k,h5,rfl⟩:=oG _ _ _ _ hx
   exact BH (hfw e (by simp)) k (List.mem_of_getElem? h5)
  ·exact hfw x (by simp [hx])
 ·have hne:g≠e.b:=fun hc=>e2 hc.symm
  exact (je hne).trans (hb.block _ hgl)
theorem G8 {w:World} {b o:Nat} {h h':Hd} (x:dV w b o h) (y:dV w b o h'):h.np=h'.np∧h.nn=h'.nn∧h.nc=h'.nc∧h.kp=h'.kp∧h.kn=h'.kn∧h.kc=h'.kc:=by
 obtain ⟨_,_,_,_,c4,c5⟩:=x;obtain ⟨_,_,_,_,d4,d5⟩:=y;have e4:=c4.symm.trans d4;have e5:=c5.symm.trans d5;simp only [Option.some.injEq,Value.slice.injEq] at e4 e5;exact ⟨e4.1,e4.2.1,e4.2.2,e5.1,e5.2.1,e5.2.2⟩
def Fre (N:Nat) (w:World) (y:Br):Prop :=
 (y.h.kn=0∨∃ kb cs,y.h.kp=some ⟨kb,0,none⟩∧N≤kb∧w.heap[kb]?=some (.cells cs 26 (0,0))) ∧
 ∀ k ∈ y.ks,k.h.nn=0∨∃ nb cs,k.h.np=some ⟨nb,0,none⟩∧N≤nb∧w.heap[nb]?=some (.cells cs 3 (0,0))
theorem Fre.agr {N:Nat} {w w2:World} {y:Br} (h:Fre N w y) (ha:Agr N w w2):Fre N w2 y:=by
 refine ⟨h.1.imp id ?_,fun k hk=>(h.2 k hk).imp id ?_⟩
 ·rintro ⟨kb,cs,h1,h2,h3⟩
  exact ⟨kb,cs,h1,h2,(ha.2 kb h2 (hlt h3)).trans h3⟩
 ·rintro ⟨kb,cs,h1,h2,h3⟩
  exact ⟨kb,cs,h1,h2,(ha.2 kb h2 (hlt h3)).trans h3⟩
theorem Ow.copyF {w0 w:World} {D:List BA} {P:Nat→Prop} (h:Ow w0 D [] P w) (y:Br) (b o:Nat) (hm:(⟨y,b,o⟩:BA) ∈ D) :
  ∃ y':Br,y'.ntr=y.ntr∧∀ w2,Agr w0.heap.size w w2→dV w2 b o y'.h∧y'.Lies w2∧Fre w0.heap.size w2 y':=by
 obtain ⟨y',h1,h2⟩:=h.copy y b o hm;have hself:Agr w0.heap.size w w:=⟨Nat.le_refl _,fun _ _ _=>rfl⟩;obtain ⟨c1,c2⟩:=h2 w hself;obtain ⟨hd,a1,_,_,d1,d2⟩:=h.done _ hm;dsimp only at a1 d1 d2
 obtain ⟨_,_,_,q1,q2,q3⟩:=G8 a1 c1;obtain ⟨_,k1,_⟩:=(bW _ _).1 c2;refine ⟨y',h1,fun w2 hw=>⟨(h2 w2 hw).1,(h2 w2 hw).2,Fre.agr ?_ hw⟩⟩
 have hlen:y'.ks.length=y.ks.length:=by rw [← k1.1,← q2,d1]
 constructor
 ·rcases d2 with d2 | ⟨kb,f1,f2,f3⟩
  ·left; rw [← q2]; exact d2
  ·by_cases hk0:hd.kn=0
   ·left; rw [← q2]; exact hk0
   obtain ⟨x,hx⟩:∃ x,y.ks[0]?=some x:=⟨_,List.getElem?_eq_getElem (by omega)⟩
   have hxm:(⟨x,kb,0⟩:BA) ∈ aT kb 0 y.ks:=by
    refine List.mem_of_getElem? (i:=0) ?_
    rw [gV,hx]; simp
   obtain ⟨e1,_,_,⟨cs',hb'⟩,_⟩:=h.blk _ (f3 _ hxm);exact .inr ⟨kb,cs',by rw [← q1]; exact f1,e1,hb'⟩
 ·intro k hk
  obtain ⟨i,hi,rfl⟩:=List.getElem_of_mem hk
  rcases d2 with d2 | ⟨kb,f1,f2,f3⟩
  ·omega
  obtain ⟨x,hx⟩:∃ x,y.ks[i]?=some x:=⟨_,List.getElem?_eq_getElem (by omega)⟩
  have hxm:(⟨x,kb,0+i * 6⟩:BA) ∈ aT kb 0 y.ks:=by
   refine List.mem_of_getElem? (i:=i) ?_
   rw [gV,hx]; rfl
  have Z5:(⟨x,kb,0+i * 6⟩:BA) ∈ D:=by simpa using f3 _ hxm
  obtain ⟨hx',g1,_,⟨g2,g3⟩,_⟩:=h.done _ Z5;dsimp only at g1
  have hat:dV w kb (0+i * 6) y'.ks[i].h:=by
   obtain ⟨_,h0 | ⟨b',off,hp,_,_,hat⟩⟩:=k1
   ·omega
   ·rw [← q1,f1] at hp
    simp only [Option.some.injEq,Addr.mk.injEq,and_true] at hp;obtain ⟨rfl,rfl⟩:=hp;exact hat i hi
  obtain ⟨r1,r2,_⟩:=G8 g1 hat
  rcases g3 with g3 | ⟨nb,cs,b1,b2,b3,b4,b5,b6⟩
  ·left; rw [← r2]; exact g3
  ·exact .inr ⟨nb,cs,by rw [← r1]; exact b1,b3,b5⟩
def xP (w:World) (y:Br) (x:Ending) (w':World):Prop:=∃ y':Br,x=.returned y'.h.val∧(∀ w2,Agr w.heap.size w' w2→y'.Lies w2∧Fre w.heap.size w2 y')∧y'.ntr=y.ntr∧Below w.heap.size w w'
theorem NI (y:Br) (w0:World) (hl:y.Lies w0) (hf:y.Few) (w1:World) (h1:w1=(w0.alloc (.cells #[.int .i64 y.h.k,.int .i64 y.h.m,.int .i64 y.h.f,.int .i64 y.h.t,.slice y.h.np y.h.nn y.h.nc,.slice y.h.kp y.h.kn y.h.kc] 26)).alloc (.cells #[.pointer (some ⟨w0.heap.size,0,none⟩)] 104)) :
  Oi w0 ⟨y,w0.heap.size,0⟩ [⟨y,w0.heap.size,0⟩] (w0.heap.size+1) w1∧w1.ownsRow w0.heap.size 104 1 (.slice (some ⟨w0.heap.size+1,0,none⟩) 1 1) 1 (ptrs BA.ad [(⟨y,w0.heap.size,0⟩:BA)])∧w1.heap.size=w0.heap.size+2:=by
 have hs3:(w0.alloc (.cells #[.int .i64 y.h.k,.int .i64 y.h.m,.int .i64 y.h.f,.int .i64 y.h.t,.slice y.h.np y.h.nn y.h.nc,.slice y.h.kp y.h.kn y.h.kc] 26)).heap.size=w0.heap.size+1:=by simp
 have hs4:w1.heap.size=w0.heap.size+2:=by rw [h1]; simp
 have hbel:Below w0.heap.size w0 w1:=by
  rw [h1];exact ((Below.refl w0.heap.size w0).alloc (Nat.le_refl _) _).alloc (by omega) _
 have hb2:w1.heap[w0.heap.size]?=some (.cells #[.int .i64 y.h.k,.int .i64 y.h.m,.int .i64 y.h.f,.int .i64 y.h.t,.slice y.h.np y.h.nn y.h.nc,.slice y.h.kp y.h.kn y.h.kc] 26 (0,0)):=by
  have:=heap_alloc_new w0 (.cells #[.int .i64 y.h.k,.int .i64 y.h.m,.int .i64 y.h.f,.int .i64 y.h.t,.slice y.h.np y.h.nn y.h.nc,.slice y.h.kp y.h.kn y.h.kc] 26)
  rw [h1,heap_alloc_old _ _ (by omega)]; exact this
 have hb3:w1.heap[w0.heap.size+1]?=some (.cells #[.pointer (some ⟨w0.heap.size,0,none⟩)] 104 (0,0)):=by
  have:=heap_alloc_new (w0.alloc (.cells #[.int .i64 y.h.k,.int .i64 y.h.m,.int .i64 y.h.f,.int .i64 y.h.t,.slice y.h.np y.h.nn y.h.nc,.slice y.h.kp y.h.kn y.h.kc] 26)) (.cells #[.pointer (some ⟨w0.heap.size,0,none⟩)] 104)
  rw [hs3] at this;rw [h1]; exact this
 have hc:=cell_of_heap hb2;refine ⟨⟨⟨[],by simp,⟨hbel,?_,fun e he=>?_,by simp,fun e he=>?_,fun e he=>by simp at he⟩⟩,fun e he=>by rw [List.mem_singleton.1 he]; exact hf⟩,ed hb3 (by omega) rfl (by unfold maxLen; omega),hs4⟩
 ·intro b hb; omega
 ·simp only [List.nil_append,List.mem_singleton] at he
  subst he;exact ⟨Nat.le_refl _,by simp only; omega,⟨0,by simp⟩,⟨_,hb2⟩,hl⟩
 ·rw [List.mem_singleton.1 he]
  exact ⟨(hc 0).trans rfl,(hc 1).trans rfl,(hc 2).trans rfl,(hc 3).trans rfl,(hc 4).trans rfl,(hc 5).trans rfl⟩
theorem U0 {w0 wz:World} {y:Br} {g:Nat} (h:Oi w0 ⟨y,w0.heap.size,0⟩ [] g wz):∃ y':Br,y'.ntr=y.ntr∧Below w0.heap.size w0 wz∧dV wz w0.heap.size 0 y'.h∧∀ w2,Agr w0.heap.size wz w2→y'.Lies w2∧Fre w0.heap.size w2 y':=by
 obtain ⟨⟨D,h1,h2⟩,_⟩:=h;obtain ⟨y',h3,h4⟩:=h2.copyF y w0.heap.size 0 (by simpa using h1);exact ⟨y',h3,h2.bel,(h4 wz ⟨Nat.le_refl _,fun _ _ _=>rfl⟩).1,fun w2 hw=>(h4 w2 hw).2⟩
theorem Fre.mono {N K:Nat} {w:World} {y:Br} (h:Fre N w y) (hK:K≤N):Fre K w y:=by
 refine ⟨h.1.imp id ?_,fun k hk=>(h.2 k hk).imp id ?_⟩
 ·rintro ⟨kb,cs,h1,h2,h3⟩
  exact ⟨kb,cs,h1,Nat.le_trans hK h2,h3⟩
 ·rintro ⟨kb,cs,h1,h2,h3⟩
  exact ⟨kb,cs,h1,Nat.le_trans hK h2,h3⟩
set_option maxHeartbeats 8000000 in
theorem Jd (y:Br) (w:World) (hl:y.Lies w) (hf:y.Few) (hn:y.flatB.length≤10000000) :
  Calls prog 79 #[y.h.val] w (xP w y):=by
 obtain ⟨w0,hw0⟩:∃ w0,w0=(w.alloc (.cells #[.int .i64 y.h.k,.int .i64 y.h.m,.int .i64 y.h.f,.int .i64 y.h.t,.slice y.h.np y.h.nn y.h.nc,.slice y.h.kp y.h.kn y.h.kc] 26)).alloc (.cells #[.int .i64 0,.int .i64 0,.int .i64 0,.int .i64 0,.slice none 0 0,.slice none 0 0] 26):=⟨_,rfl⟩
 have hz0:w0.heap.size=w.heap.size+2:=by rw [hw0]; simp
 have hb0:Below w.heap.size w w0:=by rw [hw0]; exact ((Below.refl w.heap.size w).alloc (Nat.le_refl _) _).alloc (by simp) _
 have hb1:w0.heap[w.heap.size+1]?=some (.cells #[.int .i64 0,.int .i64 0,.int .i64 0,.int .i64 0,.slice none 0 0,.slice none 0 0] 26 (0,0)):=by
  have:=heap_alloc_new (w.alloc (.cells #[.int .i64 y.h.k,.int .i64 y.h.m,.int .i64 y.h.f,.int .i64 y.h.t,.slice y.h.np y.h.nn y.h.nc,.slice y.h.kp y.h.kn y.h.kc] 26)) (.cells #[.int .i64 0,.int .i64 0,.int .i64 0,.int .i64 0,.slice none 0 0,.slice none 0 0] 26)
  rw [World.size_alloc] at this;rw [hw0]; exact this
 have HST:=hid (NI y w0 (hl.step _ hb0) hf);have infoP:(prog.info? 104).map (fun i=>(i.zero,i.size,i.bytes))=some (some (.pointer none),1,8):=by kernel_rfl
 obtain ⟨i0,hi0,hy0,hy1,hy2⟩:=info_parts infoP;have HS0:Hid (szs szB [(⟨y,w0.heap.size,0⟩:BA)]≤10000000):=hid (by simp [szs,szB]; exact hn);have HLEN:Hid (∀ l:List BA,l.length≤szs szB l):=hid fun l=>Ag szB (fun e=>qf e.y) l
 have HWZ:=hid hw0;have HB0:=hid hb0;have HB1:=hid hb1;clear hl hf hn infoP hw0 hb0 hb1
 show Calls prog 79 #[.agg #[.int .i64 y.h.k,.int .i64 y.h.m,.int .i64 y.h.f,.int .i64 y.h.t,.slice y.h.np y.h.nn y.h.nc,.slice y.h.kp y.h.kn y.h.kc]] w (xP w y)
 go_enter func79,ntmps79
 go_wp2_with fail
 rw [← HWZ.out];rw [show w.heap.size+1+1+1=w0.heap.size+1 by omega,show w.heap.size+1+1=w0.heap.size by omega]
 go_loopg [4] 10000000 (fun gk v4 wr=>∃ (st:List BA) (g c d:Nat),v4=.slice (some ⟨g,0,none⟩) d c∧Hid (st.length=d)∧Hid (szs szB st≤gk)∧Hid (Oi w0 ⟨y,w0.heap.size,0⟩ st g wr)∧gk≤10000000∧d≤gk∧Hid (wr.ownsRow w0.heap.size 104 1 (.slice (some ⟨g,0,none⟩) d c) d (ptrs BA.ad st))∧w0.heap.size≤wr.heap.size)
 case atStart =>
  obtain ⟨s1,s2,s3⟩:=HST.out _ rfl;exact ⟨[⟨y,w0.heap.size,0⟩],w0.heap.size+1,1,1,rfl,hid rfl,HS0,hid s1,by omega,by omega,hid s2,by rw [s3]; omega⟩
 case round =>
  have HZ0:=hid hz0;clear hz0;obtain ⟨st,g,c,d,rfl,HD,HS,HI,hgk,hdk,HO,Ey⟩:=hrel;have hO:=HO.out;obtain ⟨hgb,hgl,hdc,hcm⟩:=FD hO
  cases d with
  | zero =>
   have hst:st=[]:=List.length_eq_zero_iff.1 HD.out;subst hst;clear hO;obtain ⟨y',g1,g2,g3,g4⟩:=U0 HI.out;have hblk:wr.heap[w.heap.size+1]?=some (.cells #[.int .i64 0,.int .i64 0,.int .i64 0,.int .i64 0,.slice none 0 0,.slice none 0 0] 26 (0,0)):=(g2.block (w.heap.size+1) (by have:=HZ0.out; omega)).trans HB1.out;have hc:=cell_of_heap hblk;have x0:wr.cell? ⟨w.heap.size+1,0,none⟩=some (.int .i64 0):=(hc 0).trans rfl;have x1:wr.cell? ⟨w.heap.size+1,1,none⟩=some (.int .i64 0):=(hc 1).trans rfl;have x2:wr.cell? ⟨w.heap.size+1,2,none⟩=some (.int .i64 0):=(hc 2).trans rfl;have x3:wr.cell? ⟨w.heap.size+1,3,none⟩=some (.int .i64 0):=(hc 3).trans rfl;have x4:wr.cell? ⟨w.heap.size+1,4,none⟩=some (.slice none 0 0):=(hc 4).trans rfl;have x5:wr.cell? ⟨w.heap.size+1,5,none⟩=some (.slice none 0 0):=(hc 5).trans rfl;have fz:∀ j,wr.frozen? ⟨w.heap.size+1,j,none⟩=false:=fun j=>by simp [World.frozen?,hblk]
   have fz0:=fz 0;have fz1:=fz 1;have fz2:=fz 2;have fz3:=fz 3;have fz4:=fz 4;have fz5:=fz 5;have qM:Hid (∀ wf,wf=zQ wr (w.heap.size+1) y'.h→(∀ w2,Agr w.heap.size wf w2→y'.Lies w2∧Fre w.heap.size w2 y')∧Below w.heap.size w wf∧wf.heap[w.heap.size+1]?=some (.cells #[.int .i64 y'.h.k,.int .i64 y'.h.m,.int .i64 y'.h.f,.int .i64 y'.h.t,.slice y'.h.np y'.h.nn y'.h.nc,.slice y'.h.kp y'.h.kn y'.h.kc] 26 (0,0))):=hid fun wf hwf=>by
    have hsz:wf.heap.size=wr.heap.size:=by rw [hwf]; simp [zQ]
    have hz0:=HZ0.out;refine ⟨fun w2 h2=>?_,?_,by rw [hwf]; exact IG hblk _⟩
    ·obtain ⟨f1,f2⟩:=g4 w2 ⟨by have:=h2.1; omega,fun k hk hk3=>(h2.2 k (by omega) (by omega)).trans (by rw [hwf]; exact F9 (by omega))⟩
     exact ⟨f1,f2.mono (by omega)⟩
    rw [hwf];have hb:=HB0.out.trans (g2.mono (by omega));unfold zQ;exact (((((hb.setCell (p:=⟨w.heap.size+1,0,none⟩) (by show w.heap.size≤w.heap.size+1; omega) _).setCell (p:=⟨w.heap.size+1,1,none⟩) (by show w.heap.size≤w.heap.size+1; omega) _).setCell (p:=⟨w.heap.size+1,2,none⟩) (by show w.heap.size≤w.heap.size+1; omega) _).setCell (p:=⟨w.heap.size+1,3,none⟩) (by show w.heap.size≤w.heap.size+1; omega) _).setCell (p:=⟨w.heap.size+1,4,none⟩) (by show w.heap.size≤w.heap.size+1; omega) _).setCell (p:=⟨w.heap.size+1,5,none⟩) (by show w.heap.size≤w.heap.size+1; omega) _
   have HY1:=hid g1;have HU:Hid (zQ wr (w.heap.size+1) y'.h=(((((wr.setCell ⟨w.heap.size+1,0,none⟩ (.int .i64 y'.h.k)).setCell ⟨w.heap.size+1,1,none⟩ (.int .i64 y'.h.m)).setCell ⟨w.heap.size+1,2,none⟩ (.int .i64 y'.h.f)).setCell ⟨w.heap.size+1,3,none⟩ (.int .i64 y'.h.t)).setCell ⟨w.heap.size+1,4,none⟩ (.slice y'.h.np y'.h.nn y'.h.nc)).setCell ⟨w.heap.size+1,5,none⟩ (.slice y'.h.kp y'.h.kn y'.h.kc)):=hid rfl;obtain ⟨c0,c1,c2,c3,c4,c5⟩:=g3;simp only [Nat.zero_add] at c0 c1 c2 c3 c4 c5;clear hblk hc fz g1 g2 g4 HI HO HD HS HST HS0 HLEN
   go_wp2_with fail
   rw [← HU.out];clear x0 x1 x2 x3 x4 x5 fz0 fz1 fz2 fz3 fz4 fz5 HU c0 c1 c2 c3 c4 c5;obtain ⟨wf,hwf⟩:∃ wf,wf=zQ wr (w.heap.size+1) y'.h:=⟨_,rfl⟩
   obtain ⟨g2,g3,g4⟩:=qM.out wf hwf;rw [← hwf];have hc:=cell_of_heap g4;have y0:wf.cell? ⟨w.heap.size+1,0,none⟩=some (.int .i64 y'.h.k):=(hc 0).trans rfl;have y1:wf.cell? ⟨w.heap.size+1,1,none⟩=some (.int .i64 y'.h.m):=(hc 1).trans rfl;have y2:wf.cell? ⟨w.heap.size+1,2,none⟩=some (.int .i64 y'.h.f):=(hc 2).trans rfl;have y3:wf.cell? ⟨w.heap.size+1,3,none⟩=some (.int .i64 y'.h.t):=(hc 3).trans rfl;have y4:wf.cell? ⟨w.heap.size+1,4,none⟩=some (.slice y'.h.np y'.h.nn y'.h.nc):=(hc 4).trans rfl;have y5:wf.cell? ⟨w.heap.size+1,5,none⟩=some (.slice y'.h.kp y'.h.kn y'.h.kc):=(hc 5).trans rfl;clear hc hwf qM;refine bodyPost_ret (by simp [results,results79,go_sem,y0,y1,y2,y3,y4,y5,Result.andThen]; try rfl) rfl ?_
   exact ⟨y',rfl,g2,HY1.out,g3⟩
  | succ d =>
   obtain ⟨e,st',rfl⟩:∃ e r,st=e :: r:=by
    cases st with
    | nil=>have:=HD.out; cases this
    | cons e r=>exact ⟨e,r,rfl⟩
   have hd:st'.length=d:=by have:=HD.out; simpa using this
   rw [kU] at hO;have c0:wr.cell? ⟨g,d,none⟩=some (.pointer (some (BA.ad e))):=eH hO d _ (by rw [List.getElem?_append_right (by rw [mZ]; omega),mZ,hd,Nat.sub_self]; rfl);have HSH:=hid (oU hO);have hsub:IntKind.i64.wrap (((d+1:Nat):Int) - 1)=(d:Int):=by rw [show ((d+1:Nat):Int) - 1=(d:Int) by omega]; exact IntWalk.i64_in _ (by omega)
   have hsub2:IntKind.i64.wrap ((d:Int)+1 - 1)=(d:Int):=by rw [show (d:Int)+1 - 1=(d:Int) by omega]; exact IntWalk.i64_in _ (by omega)
   have O0:=hid hd;have hpos:(0:Int) < ((d+1:Nat):Int):=by omega
   have hlt2:(d:Int) < ((d+1:Nat):Int):=by omega
   have hnn:(0:Int)≤(d:Int):=by omega
   have hle2:(d:Int)≤(c:Int):=by omega
   clear hO hd;obtain ⟨⟨D,hr,Yh⟩,hfw⟩:=id HI.out;obtain ⟨p0,p1,p2,p3,p4,p5⟩:=Yh.pend e (by simp);obtain ⟨e1,e2,e3,⟨cs,e4⟩,e5⟩:=Yh.blk e (by simp);have hbel:=Yh.bel;have hlies:=(bW _ _).1 e5;have hel:=hlt e4;have hsz:e.y.h.nn≤10000000∧e.y.h.kn≤10000000:=by
    have h3:=hlies.1.1;have h4:=hlies.2.1.1;have hfe:=hfw e (by simp)
    cases hy:e.y with
    | mk h ks =>
     rw [hy] at hfe h3 h4;simp only [Br.Few,Br.h,Br.ks] at hfe h3 h4;simp only [Br.h]
     omega
   have ER:Hid (∀ W,Below wr.heap.size wr W→Calls prog 101 #[.slice e.y.h.np e.y.h.nn e.y.h.nc] W fun x w'=>∃ q d,x=.returned (.slice q e.y.h.nn d)∧Below W.heap.size W w'∧w'.ownsRow W.heap.size 3 1 (.slice q e.y.h.nn d) e.y.h.nn (e.y.h.ns.map mkI)):=hid fun W hW =>
    Fh W _ _ _ _ ((hlies.1.step hbel).step hW) hsz.1
   have HC2:Hid (∀ W,Below wr.heap.size wr W→Calls prog 102 #[.slice e.y.h.kp e.y.h.kn e.y.h.kc] W fun x w'=>∃ q d,x=.returned (.slice q e.y.h.kn d)∧Below W.heap.size W w'∧w'.ownsRow W.heap.size 26 6 (.slice q e.y.h.kn d) e.y.h.kn (bK e.y.ks)):=hid fun W hW =>
    FK W _ _ _ _ ((hlies.2.1.step hbel).step hW) hsz.2
   have HW0:Hid (Below wr.heap.size wr wr.drew):=hid (Below.refl _ _).drew;have hfz:wr.frozen? ⟨e.b,e.o+4,none⟩=false:=by simp [World.frozen?,e4]
   have WW:wr.frozen? ⟨e.b,e.o+5,none⟩=false:=by simp [World.frozen?,e4]
   have ED:Hid (∀ W,Below wr.heap.size wr W→W.cell? ⟨e.b,e.o+4,none⟩=some (.slice e.y.h.np e.y.h.nn e.y.h.nc)∧W.cell? ⟨e.b,e.o+5,none⟩=some (.slice e.y.h.kp e.y.h.kn e.y.h.kc)∧W.frozen? ⟨e.b,e.o+4,none⟩=false∧W.frozen? ⟨e.b,e.o+5,none⟩=false):=hid fun W hW =>
    ⟨(hW.cell (p:=⟨e.b,_,none⟩) hel).trans p4,(hW.cell (p:=⟨e.b,_,none⟩) hel).trans p5,(World.frozen?_of_block (a:=⟨e.b,_,none⟩) (hW.block e.b hel)).trans hfz,(World.frozen?_of_block (a:=⟨e.b,_,none⟩) (hW.block e.b hel)).trans WW⟩
   obtain ⟨REL,Ua⟩:∃ R:World→Prop,R=fun wx=>∃ hd kb,Hid (Oj w0 ⟨y,w0.heap.size,0⟩ e hd kb st' g wx)∧Hid (wx.ownsRow w0.heap.size 104 1 (.slice (some ⟨g,0,none⟩) d c) d (ptrs BA.ad st'))∧w0.heap.size≤wx.heap.size:=⟨_,rfl⟩
   have qM:Hid (∀ wz q1 d1 q2 d2,Below wr.heap.size wr wz→wz.ownsRow wr.heap.size 3 1 (.slice q1 e.y.h.nn d1) e.y.h.nn (e.y.h.ns.map mkI)→wz.ownsRow wr.heap.size 26 6 (.slice q2 e.y.h.kn d2) e.y.h.kn (bK e.y.ks)→REL (put2 wz e (.slice q1 e.y.h.nn d1) (.slice q2 e.y.h.kn d2))):=hid fun wz q1 d1 q2 d2 h1 h2 h3=>by
    obtain ⟨hd,kb,k1,k2,k3,k4⟩:=HI.out.hand hgl h1 h2 h3;rw [Ua];exact ⟨hd,kb,hid k1,hid (oO HSH.out k3),Nat.le_trans Ey k4⟩
   have WZ:=hid Ua;have HSK:Hid (∀ kb,szs szB (aT kb 0 e.y.ks)+1≤szB e):=hid fun kb=>Um e kb
   clear hr Yh hfw p0 p1 p2 p3 e1 e2 e3 e4 e5 hlies hfz WW hsz hbel Ua;unfold put2 at qM;obtain ⟨ye,eb,eo⟩:=e;simp only [BA.ad] at c0;dsimp only at ER HC2 ED qM p4 p5
   generalize ye.h.np=np at ER HC2 ED qM p4 p5;generalize ye.h.nn=nn at ER HC2 ED qM p4 p5;generalize ye.h.nc=nc at ER HC2 ED qM p4 p5;generalize ye.h.kp=kp at ER HC2 ED qM p4 p5;generalize ye.h.kn=kn at ER HC2 ED qM p4 p5;generalize ye.h.kc=kc at ER HC2 ED qM p4 p5
   go_upto_region 6 with (fail)
   go_cut [] from 9 to 56 (fun wx=>REL wx)
   case first =>
    go_region_with (first
     | (go_at_call 101; have hx:=uN.out; clear hx; (with_reducible refine Calls.mono (ER.out _ uN.out) ?_); rintro x wz ⟨q1,d1,rfl,hb1,ho1⟩; have Yi:=hid (uN.out.trans (hb1.mono uN.out.size)); have Rx:=hid (kE ho1 uN.out.size); have uK:=hid (row_step HOB.out hb1); obtain ⟨z4,z5,g4,g5⟩:=ED.out wz Yi.out; clear hb1 ho1)
     | (go_at_call 101; (with_reducible refine Calls.mono (ER.out _ HW0.out) ?_); rintro x wa ⟨q1,d1,rfl,hb1,ho1⟩; have yO:=hid (HW0.out.trans (hb1.mono HW0.out.size)); have HOA:=hid (kE ho1 HW0.out.size); obtain ⟨a4,a5,ag4,ag5⟩:=ED.out wa yO.out; clear hb1 ho1)
     | (go_at_call 102; have hx:=yO.out; clear hx; (with_reducible refine Calls.mono (HC2.out _ yO.out) ?_); rintro x wz ⟨q2,d2,rfl,hb2,ho2⟩; have Yi:=hid (yO.out.trans (hb2.mono yO.out.size)); have uK:=hid (kE ho2 yO.out.size); have Rx:=hid (row_step HOA.out hb2); obtain ⟨z4,z5,g4,g5⟩:=ED.out wz Yi.out; clear hb2 ho2)
     | (go_at_call 102; (with_reducible refine Calls.mono (HC2.out _ HW0.out) ?_); rintro x wb ⟨q2,d2,rfl,hb2,ho2⟩; have uN:=hid (HW0.out.trans (hb2.mono HW0.out.size)); have HOB:=hid (kE ho2 HW0.out.size); obtain ⟨b4,b5,bg4,bg5⟩:=ED.out wb uN.out; clear hb2 ho2))
    all_goals
     go_wp2_with fail
     go_meet
     case rel=>exact qM.out wz q1 d1 q2 d2 Yi.out Rx.out uK.out
   case rest =>
    rw [WZ.out] at hcut;obtain ⟨hd,kb,HJ,HRW,hzc⟩:=hcut;clear qM ER HC2 ED HW0 p4 p5 WZ c0 HI HO HSH;obtain ⟨_,_,hbr,hkn,hkp⟩:=id HJ.out;obtain ⟨q0,q1,q2,q3,q4,q5⟩:=hbr;dsimp only at q0 q1 q2 q3 q4 q5
    obtain ⟨n,hn⟩:∃ n,n=hd.kn:=⟨_,rfl⟩
    obtain ⟨kc,hkc⟩:∃ c,c=hd.kc:=⟨_,rfl⟩
    obtain ⟨kp,Ub⟩:∃ p,p=hd.kp:=⟨_,rfl⟩
    have HQ5:Hid (∀ g' W',Oj w0 ⟨y,w0.heap.size,0⟩ ⟨ye,eb,eo⟩ hd kb st' g' W'→W'.cell? ⟨eb,eo+5,none⟩=some (.slice kp n kc)):=hid fun g' W' h=>by
     obtain ⟨_,_,h1,_⟩:=h;rw [hn,hkc,Ub]; exact h1.2.2.2.2.2
    have Xa:Hid ((aT kb 0 ye.ks).length=n):=hid (by rw [← List.length_map (f:=BA.y),nM,hn]; exact hkn.symm);have HKP:Hid (n=0∨kp=some ⟨kb,0,none⟩∧n≤kc):=hid (by rw [hn,Ub,hkc]; exact hkp);have hsm:szs szB ((⟨ye,eb,eo⟩:BA) :: st')≤gk:=HS.out;simp only [szs] at hsm;have hks:=HSK.out kb;have hkl:=HLEN.out (aT kb 0 ye.ks);have Bc:=HLEN.out st';rw [O0.out] at Bc;rw [Xa.out] at hkl;have HB:Hid (szs szB (aT kb 0 ye.ks)+szs szB st'+1≤gk):=hid (by dsimp only at hks; omega);have hnd:n+d+1≤gk:=by have:=HB.out; omega
    have z5:=HQ5.out _ _ HJ.out;have hgg:w0.heap.size≤g:=hgb;clear hn hkc Ub hks hsm hkl Bc HS hkn hkp q0 q1 q2 q3 q4 q5 HSK;obtain ⟨G,hG⟩:∃ G,G=gk:=⟨_,rfl⟩
    subst hG;obtain ⟨wo,hwo⟩:∃ wo,wo=wc:=⟨_,rfl⟩
    subst hwo
    go_wp2_with fail
    go_loopg [4,44] n (fun gk v4 v44 wr=>∃ (gr c2:Nat),v44=.int .i64 ((n - gk:Nat):Int)∧v4=.slice (some ⟨gr,0,none⟩) (n - gk+d) c2∧gk≤n∧Hid (Oj w0 ⟨y,w0.heap.size,0⟩ ⟨ye,eb,eo⟩ hd kb st' gr wr)∧Hid (wr.ownsRow w0.heap.size 104 1 (.slice (some ⟨gr,0,none⟩) (n - gk+d) c2) (n - gk+d) (ptrs BA.ad (((aT kb 0 ye.ks).take (n - gk)).reverse++st')))∧w0.heap.size≤wr.heap.size∧w0.heap.size≤gr)
    case atStart=>exact ⟨g,c,by rw [Nat.sub_self]; rfl,by rw [Nat.sub_self,Nat.zero_add],Nat.le_refl _,HJ,hid (by rw [Nat.sub_self,Nat.zero_add]; exact HRW.out),hzc,hgg⟩
    case round =>
     obtain ⟨gr,c2,rfl,rfl,hgn,Yj,Gy,hzi,hgi⟩:=hrel
     cases gk with
     | zero =>
      have hni:¬ ((n - 0:Nat):Int) < (n:Int):=by omega
      go_wp2_with fail
      go_roundg (G - 1)
      case rel=>exact ⟨(aT kb 0 ye.ks).reverse++st',gr,c2,n+d,by simp,hid (by rw [List.length_append,List.length_reverse,Xa.out,O0.out]),hid (by rw [oC,Qp]; have:=HB.out; omega),hid Yj.out.next,by omega,by omega,hid (by have:=Gy.out; rw [Nat.sub_zero] at this; rw [← Xa.out,List.take_length] at this; rw [Xa.out] at this; exact this),hzi⟩
      case measure=>omega
     | succ gk =>
      obtain ⟨i,hi⟩:∃ i,i=n - (gk+1):=⟨_,rfl⟩
      have hi1:n - gk=i+1:=by omega
      have hin:i < n:=by omega
      have hni:(i:Int) < (n:Int):=by omega
      have h00:(0:Int)≤(i:Int):=by omega
      rw [← hi] at Gy ⊢;obtain ⟨Xb,hnc⟩:=HKP.out.resolve_left (by omega);obtain ⟨off,hoff⟩:∃ o:Nat,o=0:=⟨_,rfl⟩
      have adI:=hid hoff;rw [← hoff] at Xb;subst Xb;obtain ⟨kd,hkd⟩:∃ kd,(aT kb 0 ye.ks)[i]?=some kd:=⟨_,List.getElem?_eq_getElem (by rw [Xa.out]; exact hin)⟩
      have HAD:Hid (BA.ad kd=⟨kb,off+i * 6,none⟩):=hid (by
       rw [gV] at hkd
       cases hq:ye.ks[i]? with
       | none=>rw [hq] at hkd; cases hkd
       | some k=>rw [hq] at hkd; simp only [Option.map_some,Option.some.injEq] at hkd; subst hkd; rw [hoff])
      have Hz:Hid (((aT kb 0 ye.ks).take (i+1)).reverse++st'=kd :: (((aT kb 0 ye.ks).take i).reverse++st')):=hid (by rw [List.take_add_one,hkd]; simp);have z5:=HQ5.out _ _ Yj.out;have HJa:Hid (∀ g' w',wr.grownBy w' (some gr)→(g'=gr∨wr.heap.size≤g')→Oj w0 ⟨y,w0.heap.size,0⟩ ⟨ye,eb,eo⟩ hd kb st' g' w'):=hid fun g' w' h1 h2=>Yj.out.move h1 hgi h2
      have hq1:i+d≤10000000:=by omega
      have HI1:=hid hi1;clear hkd hoff Yj hi hi1
      go_wp2_with (at_builtin; refine wpList_append_lies _ rfl _ _ 191 rfl w0.heap.size 104 i0 _ 1 8 underlying191 hi0 hy0 hy1 hy2 rfl (by omega) _ (i+d) _ rfl (World.ownsRow.alloc Gy.out _) ⟨wr.heap.size,0,none⟩ 1 1 [.pointer (some ⟨kb,off+i * 6,none⟩)] rfl rfl vH (by simp [Value.oneCell']) (by omega) (by unfold maxLen; omega) (by omega) (by simp; omega) (wr.heap.size+1) (by simp) ?_)
      intro g2 c3 w3 hown3 hgrow Xc hlt3;have kW:Hid (w3.ownsRow w0.heap.size 104 1 (.slice (some ⟨g2,0,none⟩) (n - gk+d) c3) (n - gk+d) (ptrs BA.ad (((aT kb 0 ye.ks).take (n - gk)).reverse++st'))):=hid (by
       rw [HI1.out,Hz.out,kU,HAD.out,show i+1+d=i+d+1 by omega]; exact hown3)
      have hgrow2:wr.grownBy w3 (some gr):=ae (grown_below ((Below.refl _ _).alloc (Nat.le_refl _) _) _) hgrow;have hgc:g2=gr∨wr.heap.size≤g2:=by
       rcases Xc with h | h
       ·left; simpa [Value.ownBlock] using h.symm
       ·right; omega
      have HJ5:=hid (HJa.out g2 w3 hgrow2 hgc);have AO:w0.heap.size≤w3.heap.size:=by have:=hgrow2.size; omega
      have hg5:w0.heap.size≤g2:=by omega
      have adK:wrap64 ((i:Int)+1)=(i:Int)+1:=IntWalk.wrap64_in _ (by omega);clear hown3 hgrow hgrow2 Xc hgc HJa Gy HAD Hz
      go_wp2_with fail
      go_roundg gk
      case rel=>exact ⟨g2,c3,by rw [HI1.out]; go_num,by rw [HI1.out,show i+1+d=i+d+1 by omega],by omega,HJ5,kW,AO,hg5⟩
      case measure=>omega
def Fq (K:Nat) (w:World) (N M:Nat) (y:Br):Prop:=∀ w2:World,M≤w2.heap.size→(∀ b,N≤b→b < M→w2.heap[b]?=w.heap[b]?)→y.Lies w2∧Fre K w2 y
def FqL (K:Nat) (w:World) (v:Value) (ys:List Br):Prop:=∀ y ∈ ys,∃ N M,M≤w.heap.size∧(∀ b,N≤b→b < M→v.ownBlock≠some b)∧Fq K w N M y
theorem FqL.step {K:Nat} {w w':World} {v:Value} {os:List Br} (h:FqL K w v os) (hw:Below w.heap.size w w'):FqL K w' v os:=fun o ho=>by
 obtain ⟨N,M,h1,h2,h3⟩:=h o ho;exact ⟨N,M,Nat.le_trans h1 hw.size,h2,fun w2 g1 g2=>h3 w2 g1 fun b hb1 hb2=>(g2 b hb1 hb2).trans (hw.block b (by omega))⟩
theorem FqL.lies {K:Nat} {w:World} {v:Value} {os:List Br} (h:FqL K w v os):∀ o ∈ os,o.Lies w∧Fre K w o:=fun o ho=>by
 obtain ⟨N,M,h1,h2,h3⟩:=h o ho;exact h3 w h1 fun b _ _=>rfl
theorem FqL.grown {K:Nat} {w w':World} {v v':Value} {g:Nat} {os:List Br} (h:FqL K w v os) (hg:w.grownBy w' v.ownBlock) (hv:v'.ownBlock=some g) (hat:v.ownBlock=some g∨w.heap.size≤g):FqL K w' v' os:=fun o ho=>by
 obtain ⟨N,M,h1,h2,h3⟩:=h o ho;refine ⟨N,M,Nat.le_trans h1 hg.size,fun b hb1 hb2 e=>?_,fun w2 g1 g2=>h3 w2 g1 fun b hb1 hb2=>(g2 b hb1 hb2).trans (hg.block b (by omega) fun e=>h2 b hb1 hb2 e.symm)⟩
 rw [hv] at e
 cases e
 rcases hat with hat | hat
 ·exact h2 _ hb1 hb2 hat
 ·omega
theorem FqL.snoc {K:Nat} {w:World} {v:Value} {os:List Br} {N M:Nat} {y:Br} (h:FqL K w v os) (h1:M≤w.heap.size) (h2:∀ b,N≤b→b < M→v.ownBlock≠some b) (h3:Fq K w N M y):FqL K w v (os++[y]):=fun o ho=>by
 rcases List.mem_append.1 ho with ho | ho
 ·exact h o ho
 ·rw [List.mem_singleton.1 ho]; exact ⟨N,M,h1,h2,h3⟩
theorem yN (l:List Br) (o:Br):bK (l++[o])=bK l++iT o.h:=by simp [bK]
theorem Dy (h:Hd):∀ u ∈ iT h,u.oneCell'=true:=fun u hu=>by
 simp only [iT,List.mem_cons,List.not_mem_nil,or_false] at hu
 rcases hu with rfl | rfl | rfl | rfl | rfl | rfl <;> rfl
def Jn (W:World) (qs:List PN) (e:Ending) (W':World):Prop:=∃ (q:Option Addr) (c:Nat) (ys:List Br),e=.returned (.slice q qs.length c)∧W'.ownsRow W.heap.size 26 6 (.slice q qs.length c) qs.length (bK ys)∧qs.length=ys.length∧(∀ y ∈ ys,y.Lies W'∧Fre W.heap.size W' y)∧ys.map Br.ntr=qs.map (fun q=>q.nd.ntr)∧Below W.heap.size W W'
set_option maxHeartbeats 8000000 in
theorem IC (W:World) (pu gp:Nat) (qs:List PN) (hu:UAt W pu gp (qs.map PN.pc)) (hq:∀ q ∈ qs,q.pc.h=q.nd.h∧q.nd.Lies W∧q.nd.Few∧q.nd.flatB.length≤1000000) (hL:qs.length≤1000) :
  Calls prog 48 #[.pointer (some ⟨pu,0,none⟩)] W (Jn W qs):=by
 obtain ⟨i26,Ic,hy0,hy1,hy2⟩:∃ i26,prog.info? 26=some i26∧i26.zero=some (.agg #[.int .i64 0,.int .i64 0,.int .i64 0,.int .i64 0,.slice none 0 0,.slice none 0 0])∧i26.size=6∧i26.bytes=80:=by
  refine ⟨_,rfl,?_,?_,?_⟩ <;> kernel_rfl
 have HA:=hid (pO W pu _ hu.u);have HU:=hid hu;have HQ:=hid hq;rw [List.length_map] at HA;clear hu hq
 go_enter func48,ntmps48
 go_wp2_with fail
 refine HA.out.mono ?_
 rintro e w1 ⟨rfl,rfl⟩
 go_wp2_with fail
 go_loopw [3,9] (fun v i wr=>∃ (k:Nat) (q:Option Addr) (c:Nat) (ys:List Br),k≤qs.length∧i=.int .i64 k∧v=.slice q k c∧Hid (k=ys.length)∧Hid (wr.ownsRow W.heap.size 26 6 (.slice q k c) k (bK ys))∧Hid (FqL W.heap.size wr (.slice q k c) ys∧ys.map Br.ntr=(qs.take k).map fun q=>q.nd.ntr)∧Hid (Below W.heap.size W wr)) (fun _ i _=>qs.length - (intOf i).toNat)
 case atStart=>exact ⟨0,none,0,[],by omega,rfl,rfl,hid rfl,hid ⟨rfl,.inl ⟨rfl,rfl⟩⟩,hid ⟨fun o ho=>by simp at ho,rfl⟩,hid (Below.refl _ _)⟩
 case round =>
  obtain ⟨k,q0,c0,ys,hk,rfl,rfl,HN,HR,HO,HB⟩:=hrel
  by_cases hlt:k < qs.length
  ·obtain ⟨q,hqk⟩:∃ q,qs[k]?=some q:=⟨_,List.getElem?_eq_getElem hlt⟩
   have hpk:(qs.map PN.pc)[k]?=some q.pc:=by rw [List.getElem?_map,hqk]; rfl
   have hbw:=HB.out;obtain ⟨p0,p1,p2,p3,p4,p5,p6,p7,p8,p9⟩:=(HU.out.step hbw).part k q.pc hpk;have hqq:=HQ.out q (List.mem_of_getElem? hqk);have hsz:=hbw.size;have HQK:Hid ((qs.take (k+1)).map (fun q=>q.nd.ntr)=(qs.take k).map (fun q=>q.nd.ntr)++[q.nd.ntr]):=hid (by rw [List.take_add_one,hqk]; simp);obtain ⟨⟨⟨nm,tx⟩,hh,first,oa,m⟩,nd⟩:=q
   simp only at p0 p1 p2 p3 p4 p5 p6 p7 p8 p9 hqq HQK
   obtain ⟨hhe,hnl,hnf,hnz⟩:=hqq;subst hhe;obtain ⟨WB,ug⟩:∃ WB,WB=wr.alloc (.cells #[.string nm,.string tx,.int .i64 nd.h.k,.int .i64 nd.h.m,.int .i64 nd.h.f,.int .i64 nd.h.t,.slice nd.h.np nd.h.nn nd.h.nc,.slice nd.h.kp nd.h.kn nd.h.kc,.int .i64 first,.slice (some ⟨oa,0,none⟩) m m] 132):=⟨_,rfl⟩
   have hb0:Below wr.heap.size wr WB:=by rw [ug]; exact (Below.refl _ _).alloc (Nat.le_refl _) _
   have hbc:∀ j:Nat,WB.cell? ⟨wr.heap.size,j,none⟩=(#[.string nm,.string tx,.int .i64 nd.h.k,.int .i64 nd.h.m,.int .i64 nd.h.f,.int .i64 nd.h.t,.slice nd.h.np nd.h.nn nd.h.nc,.slice nd.h.kp nd.h.kn nd.h.kc,.int .i64 first,.slice (some ⟨oa,0,none⟩) m m]:Array Value)[j]?:=fun j=>by rw [ug]; exact cell_of_heap (heap_alloc_new wr _) j
   have b2:WB.cell? ⟨wr.heap.size,2,none⟩=some (.int .i64 nd.h.k):=hbc 2;have b3:WB.cell? ⟨wr.heap.size,3,none⟩=some (.int .i64 nd.h.m):=hbc 3;have b4:WB.cell? ⟨wr.heap.size,4,none⟩=some (.int .i64 nd.h.f):=hbc 4;have b5:WB.cell? ⟨wr.heap.size,5,none⟩=some (.int .i64 nd.h.t):=hbc 5;have b6:WB.cell? ⟨wr.heap.size,6,none⟩=some (.slice nd.h.np nd.h.nn nd.h.nc):=hbc 6;have b7:WB.cell? ⟨wr.heap.size,7,none⟩=some (.slice nd.h.kp nd.h.kn nd.h.kc):=hbc 7;have O4:=hid ug;have uN:=hid (hbw.trans (hb0.mono hsz));have HB0:=hid hb0;have HOW:Hid (Calls prog 79 #[.agg #[.int .i64 nd.h.k,.int .i64 nd.h.m,.int .i64 nd.h.f,.int .i64 nd.h.t,.slice nd.h.np nd.h.nn nd.h.nc,.slice nd.h.kp nd.h.kn nd.h.kc]] WB (xP WB nd)):=hid (Jd nd WB ((hnl.step _ hbw).step _ hb0) hnf (by omega));clear hbc hb0 hbw hpk hqk hnl hnf hnz ug
   go_upto_region 5 with (fail)
   rw [← O4.out]
   go_wp2_with fail
   refine HOW.out.mono ?_
   rintro x w5 ⟨y,rfl,hy3,hy4,Z7⟩;simp only [Hd.val];have hbn:Below w5.heap.size w5 (w5.alloc (.cells #[.int .i64 y.h.k,.int .i64 y.h.m,.int .i64 y.h.f,.int .i64 y.h.t,.slice y.h.np y.h.nn y.h.nc,.slice y.h.kp y.h.kn y.h.kc] 26)):=(Below.refl _ _).alloc (Nat.le_refl _) _;have AO:=Z7.size;have rV:Below wr.heap.size wr w5:=HB0.out.trans (Z7.mono HB0.out.size);have hrx:=rV.trans (hbn.mono rV.size);have zO:=hid (row_step HR.out hrx);have HFX:=hid (HO.out.1.step hrx);have HV5:Hid (∀ b,WB.heap.size≤b→b < w5.heap.size→(Value.slice q0 k c0).ownBlock≠some b):=hid fun b hb1 hb2 e=>by have:=FH HR.out b e; have:=HB0.out.size; omega
   have HFY:Hid (Fq W.heap.size w5 WB.heap.size w5.heap.size y):=hid fun w2 g1 g2=>by
    obtain ⟨f1,f2⟩:=hy3 w2 ⟨g1,g2⟩;exact ⟨f1,f2.mono uN.out.size⟩
   have HNY:=hid hy4;have Uc:Hid (∀ jj u,(iT y.h)[jj]?=some u→(w5.alloc (.cells #[.int .i64 y.h.k,.int .i64 y.h.m,.int .i64 y.h.f,.int .i64 y.h.t,.slice y.h.np y.h.nn y.h.nc,.slice y.h.kp y.h.kn y.h.kc] 26)).cell? ((⟨w5.heap.size,0,none⟩:Addr).add jj)=some u):=hid (World.news_of_block (heap_alloc_new w5 (.cells #[.int .i64 y.h.k,.int .i64 y.h.m,.int .i64 y.h.f,.int .i64 y.h.t,.slice y.h.np y.h.nn y.h.nc,.slice y.h.kp y.h.kn y.h.kc] 26)));have pR:=hid (HB.out.trans (hrx.mono hsz));have EE:=hid hbn;have hwz:=pR.out.size;clear hy3 hy4 Z7 AO rV hrx hbn HOW b2 b3 b4 b5 b6 b7
   go_wp2_with (at_builtin; refine wpList_append_lies _ rfl _ _ 24 rfl W.heap.size 26 i26 _ 6 80 underlying24 Ic hy0 hy1 hy2 rfl (by decide) _ _ _ rfl zO.out ⟨w5.heap.size,0,none⟩ 1 1 (iT y.h) rfl rfl Uc.out (Dy _) (by omega) (by unfold maxLen; omega) (by omega) hwz (w5.heap.size+1) (by simp) ?_; intro gg cap w7 hown hgrow hat Z8; have HOWN:=hid hown; have LH:=hid hgrow; have HAT:=hid hat; clear hown hgrow hat)
   have HXZ:Hid (((w5.alloc (.cells #[.int .i64 y.h.k,.int .i64 y.h.m,.int .i64 y.h.f,.int .i64 y.h.t,.slice y.h.np y.h.nn y.h.nc,.slice y.h.kp y.h.kn y.h.kc] 26))).heap.size=w5.heap.size+1):=hid (by simp);have HAG:Hid (Agr WB.heap.size w5 w7):=hid ((Agr.below ⟨Nat.le_refl _,fun _ _ _=>rfl⟩ EE.out).grown LH.out HV5.out);have HVN:Hid (∀ b,WB.heap.size≤b→b < w5.heap.size→(Value.slice (some ⟨gg,0,none⟩) (k+1) cap).ownBlock≠some b):=hid fun b hb1 hb2 e=>by
    simp only [Value.ownBlock,Option.some.injEq] at e;subst e
    rcases HAT.out with h | h
    ·exact HV5.out _ hb1 hb2 h
    ·have:=HXZ.out; omega
   have HFN:=hid ((HFX.out.grown (v':=.slice (some ⟨gg,0,none⟩) (k+1) cap) LH.out rfl (HAT.out.imp id fun h=>by rw [HXZ.out,h]; exact Nat.le_refl _)).snoc (N:=WB.heap.size) (M:=w5.heap.size) (y:=y) HAG.out.1 HVN.out (fun w2 g1 g2=>HFY.out w2 g1 fun b hb1 hb2=>(g2 b hb1 hb2).trans (HAG.out.2 b hb1 hb2)));have HBY:=hid (pR.out.grown LH.out hwz (fun g hg=>(FH zO.out g hg).1));have XV:Hid (k+1=(ys++[y]).length):=hid (by rw [List.length_append,← HN.out]; rfl)
   go_roundw
   case rel=>exact ⟨k+1,_,_,ys++[y],by omega,by go_num,rfl,XV,hid (by rw [yN]; exact HOWN.out),hid ⟨HFN.out,by rw [List.map_append,HQK.out,HO.out.2,List.map_cons,List.map_nil,HNY.out]⟩,HBY⟩
   case measure=>simp [intOf]; omega
  ·have hkn:k=qs.length:=by omega
   have hlt2:¬ (k:Int) < (qs.length:Int):=by omega
   go_wp2_with fail
   go_ret
   subst hkn;exact ⟨q0,c0,ys,rfl,HR.out,HN.out,HO.out.1.lies,by rw [HO.out.2,List.take_length],HB.out⟩
theorem XB (w:World) (a b c d:Int) (e:Bool):(Op.equalIn 10000 41 (.agg #[.int .i64 a,.int .i64 b,.int .i64 c,.int .i64 d,.bool e]) (.agg #[.int .i64 a,.int .i64 b,.int .i64 c,.int .i64 d,.bool e])).run prog w=.ok true w:=by
 rw [run_equalIn_agg w 9999 41 _ _ (by kernel_rfl) (by kernel_rfl)];unfold Program.fieldsOf;rw [underlying41]
 simp [Op.eqFields,go_sem]
def OIn (w:World) (p:Option Addr) (n c:Nat) (l:List fK):Prop:=n=l.length∧(n=0∨∃ b,p=some ⟨b,0,none⟩∧n≤c∧b < w.heap.size∧∀ i v,l[i]?=some v→jh w b (i * 5) v)
theorem GR {W:World} {B n c:Nat} {q:Option Addr} {l:List fK} (h:W.ownsRow B 41 5 (.slice q n c) n (fM l)) (hn:n=l.length):OIn W q n c l:=by
 refine ⟨hn,?_⟩
 obtain ⟨_,⟨_,h0⟩ | ⟨g,cc,cur,hv,hg,hh,hle,_⟩⟩:=id h
 ·exact .inl h0
 ·simp only [Value.slice.injEq] at hv
  obtain ⟨rfl,_,rfl⟩:=hv;exact .inr ⟨g,rfl,hle,hlt hh,fun i v hi=>Jg h i v hi⟩
set_option maxHeartbeats 4000000 in
theorem FI (l:List fK) (p q:Option Addr) (n c n' c':Nat) (W:World) (h:OIn W p n c l) (h':OIn W q n' c' l) (hm:n≤100000000) :
  Calls prog 20 #[.slice p n c,.slice q n' c'] W fun e W'=>e=.returned (.bool true)∧∃ d,W'=W.drewN d:=by
 have hn:=h.1;obtain rfl:n'=n:=by rw [hn]; exact h'.1
 have HI:=hid h;have HI':=hid h';clear h h' hn;have heq:=XB
 go_enter func20,ntmps20
 go_wp2_with fail
 go_loopw [5] (fun i wr=>∃ k d:Nat,k≤n'∧i=.int .i64 k∧wr=W.drewN d) (fun i _=>n' - (intOf i).toNat)
 case atStart=>exact ⟨0,0,by omega,rfl,rfl⟩
 case round =>
  obtain ⟨k,d,hk,rfl,rfl⟩:=hrel
  by_cases hlt:k < n'
  ·obtain ⟨hn1,h0 | ⟨b,rfl,hc,hb,hat⟩⟩:=HI.out
   ·omega
   obtain ⟨hn2,h0 | ⟨b',rfl,hc',hb',hat'⟩⟩:=HI'.out
   ·omega
   obtain ⟨f,hf⟩:∃ f,l[k]?=some f:=⟨_,List.getElem?_eq_getElem (by omega)⟩
   obtain ⟨c0,c1,c2,c3,c4⟩:=hat k f hf;obtain ⟨e0,e1,e2,e3,e4⟩:=hat' k f hf;obtain ⟨fl,at_,end_,sp,dc⟩:=f
   simp only at c0 c1 c2 c3 c4 e0 e1 e2 e3 e4
   have r1:(0:Int)≤(k:Int):=by omega
   have r2:(k:Int) < (n':Int):=by omega
   clear hn1 hn2 hat hat' hf
   go_wp2_with fail
   go_quiet (fail)
   go_wp2_with fail
   go_roundw
   case rel=>exact ⟨k+1,_,by omega,by go_num,rfl⟩
   case measure=>simp [intOf]; omega
  ·go_wp2_with fail
   go_ret
   exact ⟨rfl,d,rfl⟩
theorem yS {W:World} {B n d:Nat} {q:Option Addr} {ys:List Br} (h:W.ownsRow B 26 6 (.slice q n d) n (bK ys)) (hn:n=ys.length):jM W q n d ys:=by
 refine ⟨hn,?_⟩
 obtain ⟨_,⟨_,h0⟩ | ⟨g,cc,cur,hv,hg,hh,hle,_⟩⟩:=id h
 ·exact .inl h0
 ·simp only [Value.slice.injEq] at hv
  obtain ⟨rfl,_,rfl⟩:=hv;exact .inr ⟨g,0,rfl,hle,hlt hh,fun i hi=>yc h i _ (List.getElem?_eq_getElem hi)⟩
set_option maxHeartbeats 4000000 in
theorem D8 (ys zs:List Br) (p q:Option Addr) (n c n' c':Nat) (W:World) (h:jM W p n c ys) (h':jM W q n' c' zs) (hy:∀ y ∈ ys,y.Lies W∧y.Few) (hz:∀ y ∈ zs,y.Lies W) (ha:Gn true ys zs) (hm:n≤100000000) :
  Calls prog 47 #[.slice p n c,.slice q n' c'] W fun e W'=>e=.returned (.bool true)∧Below W.heap.size W W':=by
 obtain ⟨hl,hal⟩:=(sJ true ys zs).1 ha;have hn:=h.1;obtain rfl:n'=n:=by rw [hn,hl]; exact h'.1
 have HI:=hid h;have HI':=hid h';have HY:=hid hy;have HZ:=hid hz;have HL:=hid hal;have HN:=hid hl;clear h h' hn hy hz ha hal hl
 go_enter func47,ntmps47
 go_wp2_with fail
 go_loopw [13] (fun i wr=>∃ k:Nat,k≤n'∧i=.int .i64 k∧Hid (Below W.heap.size W wr)) (fun i _=>n' - (intOf i).toNat)
 case atStart=>exact ⟨0,by omega,rfl,hid (Below.refl _ _)⟩
 case round =>
  obtain ⟨k,hk,rfl,HB⟩:=hrel
  by_cases hlt:k < n'
  ·obtain ⟨hn1,h0 | ⟨b,o,rfl,hc,hb,hat⟩⟩:=HI.out
   ·omega
   obtain ⟨hn2,h0 | ⟨b',o',rfl,hc',hb',hat'⟩⟩:=HI'.out
   ·omega
   have hk1:k < ys.length:=by omega
   have hk2:k < zs.length:=by omega
   obtain ⟨c0,c1,c2,c3,c4,c5⟩:=(hat k hk1).step hb HB.out;obtain ⟨e0,e1,e2,e3,e4,e5⟩:=(hat' k hk2).step hb' HB.out;have HC:Hid (∀ W',Below wr.heap.size wr W'→Calls prog 19 #[ys[k].h.val,zs[k].h.val,.bool true] W' fun e w'=>e=.returned (.bool true)∧Below W'.heap.size W' w'):=hid fun W' hW=>CV true ys[k] zs[k] W' (((HY.out _ (List.getElem_mem hk1)).1.step _ HB.out).step _ hW) (((HZ.out _ (List.getElem_mem hk2)).step _ HB.out).step _ hW) (HY.out _ (List.getElem_mem hk1)).2 (HL.out k hk1 hk2)
   simp only [Hd.val] at HC;have r1:(0:Int)≤(k:Int):=by omega
   have r2:(k:Int) < (n':Int):=by omega
   have hsz:=HB.out.size;clear hn1 hn2 hat hat';generalize ys[k]=y at *;generalize zs[k]=z at *
   go_upto_region 6 with (fail)
   go_still_tail 8,(by kernel_rfl)
   change wpList _ _ _ _ _ wr.drew
   obtain ⟨wd,hwd⟩:∃ wd,wd=wr.drew:=⟨_,rfl⟩
   have Z9:Hid (Below wr.heap.size wr wd):=hid (by rw [hwd]; exact (Below.refl _ _).drew);rw [← hwd];have HCC:=hid (HC.out wd Z9.out);clear hwd HC
   go_wp2_with fail
   refine HCC.out.mono ?_
   rintro x w3 ⟨rfl,hb3⟩;have HB3:Hid (Below W.heap.size W w3):=hid (HB.out.trans ((Z9.out.trans (hb3.mono Z9.out.size)).mono hsz));clear hb3 HCC
   go_wp2_with fail
   go_roundw
   case rel=>exact ⟨k+1,by omega,by go_num,HB3⟩
   case measure=>simp [intOf]; omega
  ·go_wp2_with fail
   go_ret
   exact ⟨rfl,HB.out⟩
end Go.Proofs.YtmpmfamiegpmgaaGreatDoor
