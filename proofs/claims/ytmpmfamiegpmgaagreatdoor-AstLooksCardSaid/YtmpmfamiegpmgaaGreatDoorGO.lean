/-
  The reader's atom.; The reader's call.; The reader's infix.
-/
import Derived.Test.YtmpmfamiegpmgaaGreatDoorGI
import Derived.Test.YtmpmfamiegpmgaaGreatDoorGL
import Derived.Test.YtmpmfamiegpmgaaGreatDoorGG
import Derived.Test.YtmpmfamiegpmgaaGreatDoorGM
namespace Go.Proofs.YtmpmfamiegpmgaaGreatDoor
open Tryz
open Go.Lib (cell_of_heap hid)
open Go.RowKit
set_option maxRecDepth 20000
set_option linter.unusedVariables false
set_option linter.unusedSimpArgs false
theorem WB (args:Array Value) (w:World):Sem.run prog (callFunc 232 args) w=.ok (.enter 232 args) w:=aV func232 (by kernel_rfl) (by kernel_rfl) args w
set_option maxHeartbeats 4000000 in
theorem CO (S:Src) (F:Nat) (rec:Nt→Nat→Nat→Out Pb) (d:Nat) (hs:Said S rec d) (jo:F≤1000000000) (n:Nat) (w:World) (h:Rd w S n d)
  (hD:∀ k w',Rd w' S k d→iy S F rec d 0 k≠.dry→Calls prog 122 #[.pointer (some ⟨S.g,0,none⟩),.int .i64 (0:Int)] w' fun e w''=>Ends S d w' (iy S F rec d 0 k) (RK w') e w'') (aG:iZ S F rec d n≠.dry) :
  Calls prog 306 #[.pointer (some ⟨S.g,0,none⟩)] w fun e w'=>Ends S d w (iZ S F rec d n) (RB w) e w':=by
 have hgl:=h.lt;have aW:=h.row;have hbd:=h.bound;have ST0:=hid (St.init h [] ((by simp)));have HS:=hid hs;have Xc:=hid hD;obtain ⟨tot,htot⟩:∃ tot,tot=iZ S F rec d n:=⟨_,rfl⟩
 have HD:Hid (tot≠.dry):=hid (by rw [htot]; exact aG);rw [← htot];unfold iZ at htot;have EQ0:=hid htot;clear h aG htot hs hD
 cases h7:S.kd n == 7
 ·have e2:=EQ0.out
  simp only [h7,cond_false] at e2;have EQ2:=hid e2;clear e2 EQ0
  cases hlet:S.is n [108,101,116]
  ·have e3:=EQ2.out
   simp only [hlet,cond_false] at e3;have EQ3:=hid e3;clear e3 EQ2
   go_enter func306,ntmps306
   have q2:=ST0.out.rd.c2;have HP:=hid (bG S (n) d _ ST0.out.rd)
   go_wp2_with fail
   refine HP.out.mono ?_
   rintro e w4 ⟨rfl,hb⟩;have ST5:=hid (ST0.out.below hb);clear hb ST0 HP;clear q2;have HP:=hid (aC S (n) d ⟨#[108,101,116]⟩ _ ST5.out.rd (by simp));simp only [hlet,cond_true,cond_false] at HP
   go_wp2_with fail
   refine HP.out.mono ?_
   rintro e w6 ⟨rfl,hr,hg⟩;have ST7:=hid (ST5.out.grow hr hg);clear hr hg ST5 HP;have HC:=hid (vC 232 WB S F ((n)) d 28 (rec .exp d) _ ST7.out.rd jo (fun k w' hr hnd=>HS.out.exp k w' hr hnd) (by rw [← EQ3.out]; exact HD.out))
   go_wp2_with fail
   refine HC.out.mono ?_
   rintro e w8 (⟨x8,n8,v8,hpo,rfl,⟨y8,hv,hyl,hyo,rfl⟩,hr,hg⟩ | ⟨ch,ho,rfl,hg⟩)
   rotate_left
   ·exact ⟨rfl,Or.inr ⟨ch,by rw [EQ3.out]; exact ho,rfl,ST7.out.pan hg⟩⟩
   have EQ9:=hid (EQ3.out.trans hpo);clear EQ3;have zU:=hid (And.intro hyl (hyo.mono (fun q hq=>Nat.le_trans ST7.out.size hq) _));simp only [Hd.val] at hv;subst hv;have ST10:=hid (ST7.out.grow hr hg);clear hr hg ST7 hyl hyo hpo HC;have FIN:=hid (ST10.out.finY hgl aW zU.out.1 zU.out.2 EQ9.out);clear ST10 zU EQ9;obtain ⟨c0,c1,c2,c3,c4,c5,f0,f1,f2,f3,f4,f5⟩:=FIN.out.al
   go_wp2_with fail
   obtain ⟨_,_,_,_,_,_,_,d0,d1,d2,d3,d4,d5,hfin⟩:=FIN.out;refine bodyPost_ret (by simp [results,results306,go_sem,d0,d1,d2,d3,d4,d5,Result.andThen]; try rfl) rfl ?_
   exact hfin
  ·have e3:=EQ2.out
   simp only [hlet,cond_true] at e3;have EQ3:=hid e3;clear e3 EQ2
   go_enter func306,ntmps306
   have q2:=ST0.out.rd.c2;have HP:=hid (bG S (n) d _ ST0.out.rd)
   go_wp2_with fail
   refine HP.out.mono ?_
   rintro e w4 ⟨rfl,hb⟩;have ST5:=hid (ST0.out.below hb);clear hb ST0 HP;clear q2;have HP:=hid (aC S (n) d ⟨#[108,101,116]⟩ _ ST5.out.rd (by simp));simp only [hlet,cond_true,cond_false] at HP
   go_wp2_with fail
   refine HP.out.mono ?_
   rintro e w6 ⟨rfl,hr,hg⟩;have ST7:=hid (ST5.out.grow hr hg);clear hr hg ST5 HP;have HC:=hid (qh S F rec d 0 ((n+1)) _ ST7.out.rd (fun w' hr hnd=>Xc.out _ w' hr hnd) (aA (by rw [← EQ3.out]; exact HD.out)))
   go_wp2_with fail
   refine HC.out.mono ?_
   rintro e w8 (⟨x8,n8,v8,hpo,rfl,⟨y8,hv,hyl,hyo,rfl⟩,hr,hg⟩ | ⟨ch,ho,rfl,hg⟩)
   rotate_left
   ·exact ⟨rfl,Or.inr ⟨ch,by rw [EQ3.out]; exact ai (ho),rfl,ST7.out.pan hg⟩⟩
   have e9:=EQ3.out;rw [show _=Out.ok _ _ from hpo,bind_ok] at e9;have EQ9:=hid e9;clear e9 EQ3;have zU:=hid (And.intro hyl (hyo.mono (fun q hq=>Nat.le_trans ST7.out.size hq) _));simp only [Hd.val] at hv;subst hv;have ST10:=hid (ST7.out.grow hr hg);clear hr hg ST7 hyl hyo hpo HC;have hbx:=ST10.out.box zU.out.1 zU.out.2;have hsz:=ST10.out.size;have hlt:=ST10.out.lt;have hn1:¬ S.g=w8.heap.size:=by omega
   have hn2:¬ w8.heap.size=S.g:=by omega
   have hrb:=heap_alloc_new w8 aH;have qq:=cell_of_heap hrb;have r0:=qq 0;have r1:=qq 1;have r2:=qq 2;have r3:=qq 3;have r4:=qq 4;have r5:=qq 5;simp only [List.getElem?_toArray,List.getElem?_cons_zero,List.getElem?_cons_succ,aH] at r0 r1 r2 r3 r4 r5;have fz:∀ i,(w8.alloc aH).frozen? ⟨w8.heap.size,i,none⟩=false:=fun i=>ay hrb i
   have f0:=fz 0;have f1:=fz 1;have f2:=fz 2;have f3:=fz 3;have f4:=fz 4;have f5:=fz 5;have STx:=hid hbx;clear hbx hrb qq fz hsz hlt ST10  zU
   rename_i K1 hK1 K0 hK0
   show K0 _ _
   refine hK0 _ _ ?_
   refine wpList_step fun K2 hK2=>?_
   rw [if_pos (ag rfl)];unfold Oper.wp;have hrun:∀ a:Act,(execOp a.eval ⟨some 5,.alloc 96,0,"terms.go:85",#[],none⟩).run prog w8=.ok (.value (.pointer (some ⟨w8.heap.size,0,none⟩))) (w8.alloc aH):=fun a=>by
    generalize a.eval=ρ
    simp [go_sem]
    try rfl
   rw [hrun,Oper.upon_value];refine hK2 _ _ ?_
   clear hrun hK2 hK0;simp only [Act.put,List.setIfInBounds_toArray,List.set_cons_zero,List.set_cons_succ] at *;generalize XT:w8.heap.size=b11 at *;generalize w8.alloc aH=A11 at *;clear XT;have HC:=hid (bF S ((n8)) d ⟨#[105,110]⟩ _ STx.out.rd (by simp))
   go_wp2_with fail
   refine HC.out.mono ?_
   rintro e w12 (⟨x12,n12,v12,hpo,rfl,hv,hr,hg⟩ | ⟨ch,ho,rfl,hg⟩)
   rotate_left
   ·exact ⟨rfl,Or.inr ⟨ch,by rw [EQ9.out]; exact ai (ho),rfl,STx.out.pan hg⟩⟩
   have e13:=EQ9.out;rw [show _=Out.ok _ _ from hpo,bind_ok] at e13;have EQ13:=hid e13;clear e13 EQ9;obtain rfl:v12=.tuple #[]:=hv;have ST14:=hid (STx.out.grow hr hg);clear hr hg STx hpo HC;clear r0 r1 r2 r3 r4 r5 f0 f1 f2 f3 f4 f5 hn1 hn2;have HC:=hid (HS.out.exp ((n12)) _ ST14.out.rd (aA (by rw [← EQ13.out]; exact HD.out)))
   go_wp2_with fail
   refine HC.out.mono ?_
   rintro e w15 (⟨x15,n15,v15,hpo,rfl,⟨y15,hv,hyl,hyo,rfl⟩,hr,hg⟩ | ⟨ch,ho,rfl,hg⟩)
   rotate_left
   ·exact ⟨rfl,Or.inr ⟨ch,by rw [EQ13.out]; exact ai (ho),rfl,ST14.out.pan hg⟩⟩
   have e16:=EQ13.out;rw [show _=Out.ok _ _ from hpo,bind_ok] at e16;have EQ16:=hid e16;clear e16 EQ13;have G8:=hid (And.intro hyl (hyo.mono (fun q hq=>Nat.le_trans ST14.out.size hq) _));simp only [Hd.val] at hv;subst hv;have ST17:=hid (ST14.out.grow hr hg);clear hr hg ST14 hyl hyo hpo HC;have hbx:=ST17.out.box G8.out.1 G8.out.2;have hsz:=ST17.out.size;have hlt:=ST17.out.lt;have hn1:¬ S.g=w15.heap.size:=by omega
   have hn2:¬ w15.heap.size=S.g:=by omega
   have hrb:=heap_alloc_new w15 aH;have qq:=cell_of_heap hrb;have r0:=qq 0;have r1:=qq 1;have r2:=qq 2;have r3:=qq 3;have r4:=qq 4;have r5:=qq 5;simp only [List.getElem?_toArray,List.getElem?_cons_zero,List.getElem?_cons_succ,aH] at r0 r1 r2 r3 r4 r5;have fz:∀ i,(w15.alloc aH).frozen? ⟨w15.heap.size,i,none⟩=false:=fun i=>ay hrb i
   have f0:=fz 0;have f1:=fz 1;have f2:=fz 2;have f3:=fz 3;have f4:=fz 4;have f5:=fz 5;have STx:=hid hbx;clear hbx hrb qq fz hsz hlt ST17  G8
   rename_i K1 hK1 K0 hK0
   show K0 _ _
   refine hK0 _ _ ?_
   refine wpList_step fun K2 hK2=>?_
   rw [if_pos (ag rfl)];unfold Oper.wp;have hrun:∀ a:Act,(execOp a.eval ⟨some 6,.alloc 96,0,"terms.go:87",#[],none⟩).run prog w15=.ok (.value (.pointer (some ⟨w15.heap.size,0,none⟩))) (w15.alloc aH):=fun a=>by
    generalize a.eval=ρ
    simp [go_sem]
    try rfl
   rw [hrun,Oper.upon_value];refine hK2 _ _ ?_
   clear hrun hK2 hK0;simp only [Act.put,List.setIfInBounds_toArray,List.set_cons_zero,List.set_cons_succ] at *;generalize XU:w15.heap.size=b18 at *;generalize w15.alloc aH=A18 at *;clear XU;have HC:=hid (bF S ((n15)) d ⟨#[101,110,100]⟩ _ STx.out.rd (by simp))
   go_wp2_with fail
   refine HC.out.mono ?_
   rintro e w19 (⟨x19,n19,v19,hpo,rfl,hv,hr,hg⟩ | ⟨ch,ho,rfl,hg⟩)
   rotate_left
   ·exact ⟨rfl,Or.inr ⟨ch,by rw [EQ16.out]; exact ai (ho),rfl,STx.out.pan hg⟩⟩
   have e20:=EQ16.out;rw [show _=Out.ok _ _ from hpo,bind_ok] at e20;have EQ20:=hid e20;clear e20 EQ16;obtain rfl:v19=.tuple #[]:=hv;have ST21:=hid (STx.out.grow hr hg);clear hr hg STx hpo HC;clear r0 r1 r2 r3 r4 r5 f0 f1 f2 f3 f4 f5 hn1 hn2;have qq:=cell_of_heap (ST21.out.b (b18,y15) (by simp)).1;have l00:=qq 0;have l01:=qq 1;have l02:=qq 2;have l03:=qq 3;have l04:=qq 4;have l05:=qq 5;simp only [List.getElem?_toArray,List.getElem?_cons_zero,List.getElem?_cons_succ] at l00 l01 l02 l03 l04 l05;clear qq;have qq:=cell_of_heap (ST21.out.b (b11,y8) (by simp)).1;have l10:=qq 0;have l11:=qq 1;have l12:=qq 2;have l13:=qq 3;have l14:=qq 4;have l15:=qq 5;simp only [List.getElem?_toArray,List.getElem?_cons_zero,List.getElem?_cons_succ] at l10 l11 l12 l13 l14 l15;clear qq;have QD:∀ u ∈ [y8,y15],u.Lies w19∧u.On (fun q=>(w.alloc aH).heap.size≤q):=(List.forall_mem_cons.2 ⟨(ST21.out.b (b11,y8) (by simp)).2.2,(List.forall_mem_cons.2 ⟨(ST21.out.b (b18,y15) (by simp)).2.2,(fun _ h=>nomatch h)⟩)⟩)
   have ST22:Hid (St S _ d _ (w19.alloc (.cells #[.int .i64 y8.h.k,.int .i64 y8.h.m,.int .i64 y8.h.f,.int .i64 y8.h.t,.slice y8.h.np y8.h.nn y8.h.nc,.slice y8.h.kp y8.h.kn y8.h.kc,.int .i64 y15.h.k,.int .i64 y15.h.m,.int .i64 y15.h.f,.int .i64 y15.h.t,.slice y15.h.np y15.h.nn y15.h.nc,.slice y15.h.kp y15.h.kn y15.h.kc] 96)) _):=hid (ST21.out.newK [y8,y15] (by simp) QD);clear QD;have HB:=hid (az S (n19) d 35 (n:Nat) none 0 0 (some ⟨w19.heap.size,0,none⟩) 2 2 _ ST22.out.rd)
   go_wp2_with fail
   refine HB.out.mono ?_
   rintro e w23 ⟨rfl,hb⟩;have ST24:=hid (ST22.out.below hb);clear hb ST22 HB;have FIN:=hid (ST24.out.fin (k:=35) (m:=0) (f:=n) hgl aW St.noN (ST24.out.ks (.slice (some ⟨w19.heap.size,0,none⟩) 2 2,[y8,y15]) (by simp)) EQ20.out);clear ST24 EQ20;obtain ⟨c0,c1,c2,c3,c4,c5,f0,f1,f2,f3,f4,f5⟩:=FIN.out.al
   go_wp2_with fail
   obtain ⟨_,_,_,_,_,_,_,d0,d1,d2,d3,d4,d5,hfin⟩:=FIN.out;refine bodyPost_ret (by simp [results,results306,go_sem,d0,d1,d2,d3,d4,d5,Result.andThen]; try rfl) rfl ?_
   exact hfin
 ·have e2:=EQ0.out
  simp only [h7,cond_true] at e2;have EQ2:=hid e2;clear e2 EQ0
  go_enter func306,ntmps306
  have q2:=ST0.out.rd.c2;have HP:=hid (bG S (n) d _ ST0.out.rd)
  go_wp2_with fail
  refine HP.out.mono ?_
  rintro e w3 ⟨rfl,hb⟩;have ST4:=hid (ST0.out.below hb);clear hb ST0 HP;clear q2;have HC:=hid (QY S ((n)) d 7 6 (by decide) (by decide) _ ST4.out.rd (aA (by rw [← EQ2.out]; exact HD.out)))
  go_wp2_with fail
  refine HC.out.mono ?_
  rintro e w5 (⟨x5,n5,v5,hpo,rfl,hv,hr,hg⟩ | ⟨ch,ho,rfl,hg⟩)
  rotate_left
  ·exact ⟨rfl,Or.inr ⟨ch,by rw [EQ2.out]; exact ai (ho),rfl,ST4.out.pan hg⟩⟩
  have hpl:=GG hpo;have e6:=EQ2.out;rw [show _=Out.ok _ _ from hpo,bind_ok] at e6;have EQ6:=hid e6;clear e6 EQ2;have hz:=ST4.out.size;obtain ⟨p5,l5,cp5,rfl⟩:=hv.form;have ho:=own_base hv hz;have ST7:=hid ((ST4.out.grow hr hg).addN ho);clear hr hg ST4 hv ho hz hpo HC;obtain ⟨m,hmm⟩:∃ m,m=n5 - 1:=⟨_,rfl⟩
  have e8:=EQ6.out;rw [← hmm] at e8;have EQ8:=hid e8;clear e8 EQ6;have hmh:=ST7.out.rd.here;have hml:m < S.ts.length:=by omega
  have hlen:=ST7.out.rd.good.len;have c1:=ST7.out.rd.c1;have c2:=ST7.out.rd.c2;obtain ⟨t0,_,_⟩:=ST7.out.rd.toks m hml;rw [← S.kd_at hml] at t0;have hi1:(n5:Int) - 1=(m:Int):=by omega
  have hwr:IntKind.i64.wrap (m:Int)=(m:Int):=IntWalk.i64_in _ (by omega);have hx1:(0:Int)≤(m:Int):=by omega
  have hx2:(m:Int) < (S.ts.length:Int):=by omega
  clear hmh hlen hmm hpl
  cases hk:S.kd m == 7
  ·have e9:=EQ8.out
   simp only [hk,cond_false] at e9;have EQ9:=hid e9;clear e9 EQ8
   go_wp2_with fail
   go_quiet (fail)
   have ST10:=hid (ST7.out.below (below_drewN (Below.refl w5.heap.size w5) nq));clear ST7;have HB:=hid (az S (n5) d 28 (n:Nat) p5 l5 cp5 none 0 0 _ ST10.out.rd)
   go_wp2_with fail
   refine HB.out.mono ?_
   rintro e w11 ⟨rfl,hb⟩;have ST12:=hid (ST10.out.below hb);clear hb ST10 HB;clear c1 c2 t0 hi1 hwr hx1 hx2;have FIN:=hid (ST12.out.fin (k:=28) (m:=0) (f:=n) hgl aW (ST12.out.ns (.slice p5 l5 cp5,x5) (by simp)) St.noK EQ9.out);clear ST12 EQ9;obtain ⟨c0,c1,c2,c3,c4,c5,f0,f1,f2,f3,f4,f5⟩:=FIN.out.al
   go_wp2_with fail
   obtain ⟨_,_,_,_,_,_,_,d0,d1,d2,d3,d4,d5,hfin⟩:=FIN.out;refine bodyPost_ret (by simp [results,results306,go_sem,d0,d1,d2,d3,d4,d5,Result.andThen]; try rfl) rfl ?_
   exact hfin
  ·have e9:=EQ8.out
   simp only [hk,cond_true] at e9;have EQ9:=hid e9;clear e9 EQ8
   go_wp2_with fail
   go_quiet (fail)
   have ST10:=hid (ST7.out.below (below_drewN (Below.refl w5.heap.size w5) nq));clear ST7;have HB:=hid (az S (n5) d 29 (n:Nat) p5 l5 cp5 none 0 0 _ ST10.out.rd)
   go_wp2_with fail
   refine HB.out.mono ?_
   rintro e w11 ⟨rfl,hb⟩;have ST12:=hid (ST10.out.below hb);clear hb ST10 HB;clear c1 c2 t0 hi1 hwr hx1 hx2;have FIN:=hid (ST12.out.fin (k:=29) (m:=0) (f:=n) hgl aW (ST12.out.ns (.slice p5 l5 cp5,x5) (by simp)) St.noK EQ9.out);clear ST12 EQ9;obtain ⟨c0,c1,c2,c3,c4,c5,f0,f1,f2,f3,f4,f5⟩:=FIN.out.al
   go_wp2_with fail
   obtain ⟨_,_,_,_,_,_,_,d0,d1,d2,d3,d4,d5,hfin⟩:=FIN.out;refine bodyPost_ret (by simp [results,results306,go_sem,d0,d1,d2,d3,d4,d5,Result.andThen]; try rfl) rfl ?_
   exact hfin
set_option maxHeartbeats 8000000 in
theorem xu (S:Src) (F:Nat) (rec:Nt→Nat→Nat→Out Pb) (d:Nat) (hF:F≤1000000000)
  (hA:∀ k w,Rd w S k d→iZ S F rec d k≠.dry→Calls prog 306 #[.pointer (some ⟨S.g,0,none⟩)] w fun e w'=>Ends S d w (iZ S F rec d k) (RB w) e w')
  (n:Nat) (w:World) (h:Rd w S n d) (aG:lK S F rec d n≠.dry) :
  Calls prog 298 #[.pointer (some ⟨S.g,0,none⟩)] w fun e w'=>Ends S d w (lK S F rec d n) (RB w) e w':=by
 obtain ⟨i0,hi0,hy0,hy1,hy2⟩:=info_parts zn;have hgl:=h.lt;have aW:=h.row;have hb1:Below w.heap.size w (w.alloc aH):=(Below.refl w.heap.size w).alloc (Nat.le_refl _) _;have hr1:=h.step hb1;have q2:=hr1.c2;have hgz:(w.alloc aH).heap.size=w.heap.size+1:=by simp
 unfold lK at aG ⊢;have HX0:=hid (hA n _ hr1 (aA aG));have Ri:=hid hA;obtain ⟨tot,htot⟩:∃ tot,tot=(iZ S F rec d n).bind fun b n1=>(jJ S F rec d F [b] n1).bind fun l n2=>Out.ok (fB l 36 n n2 []) n2:=⟨_,rfl⟩
 have eQ:Hid (tot≠.dry):=hid (by rw [htot]; exact aG);rw [← htot];have dW:=hid htot;clear htot h aG hA hr1 hb1
 go_enter func298,ntmps298
 go_wp2_with fail
 refine HX0.out.mono ?_
 rintro e w1 (⟨b1,n1,v,hpo,rfl,⟨y,rfl,hyl,hyo,hyp⟩,hr,hg⟩ | ⟨ch,ho,rfl,hg⟩)
 ·have HL:Hid (tot=(jJ S F rec d F ([y].map Br.pb) n1).bind fun l n2=>Out.ok (fB l 36 n n2 []) n2):=hid (by rw [dW.out,hpo,List.map_cons,List.map_nil,hyp]; rfl)
  have hB1:Below w1.heap.size w1 (w1.alloc (.cells #[.int .i64 y.h.k,.int .i64 y.h.m,.int .i64 y.h.f,.int .i64 y.h.t,.slice y.h.np y.h.nn y.h.nc,.slice y.h.kp y.h.kn y.h.kc] 96)):=(Below.refl _ _).alloc (Nat.le_refl _) _;have hs1:w.heap.size+1≤w1.heap.size:=by have:=hg.size; omega
  have HR1:=hid (hr.step hB1);have zY:=hid (ae hg (grown_below hB1 (some S.g)));have Oc:Hid ((w1.alloc (.cells #[.int .i64 y.h.k,.int .i64 y.h.m,.int .i64 y.h.f,.int .i64 y.h.t,.slice y.h.np y.h.nn y.h.nc,.slice y.h.kp y.h.kn y.h.kc] 96)).ownsRow (w.heap.size+1) 96 6 (.slice (some ⟨w1.heap.size,0,none⟩) 1 1) 1 (bg [y])):=hid (dB (heap_alloc_new w1 _) hs1 rfl (by unfold maxLen; omega));have zT:Hid (Kids (w.heap.size+1) (.slice (some ⟨w1.heap.size,0,none⟩) 1 1) (w1.alloc (.cells #[.int .i64 y.h.k,.int .i64 y.h.m,.int .i64 y.h.f,.int .i64 y.h.t,.slice y.h.np y.h.nn y.h.nc,.slice y.h.kp y.h.kn y.h.kc] 96)) [y]):=hid (by rw [← hgz]; exact vN (Nat.le_refl _) hyl hyo 1 1);clear hpo hyl hyo hyp hr hg hB1 hs1
  go_wp2_with fail
  go_loopg [4] F (fun gk v7 wr=>∃ (ys:List Br) (i:Nat) (p7:Option Addr) (c7:Nat),v7=.slice p7 ys.length c7∧ys.length+gk=F+1∧Hid (tot=(jJ S F rec d gk (ys.map Br.pb) i).bind fun l n2=>Out.ok (fB l 36 n n2 []) n2)∧Hid (wr.ownsRow (w.heap.size+1) 96 6 (.slice p7 ys.length c7) ys.length (bg ys))∧Hid (Kids (w.heap.size+1) (.slice p7 ys.length c7) wr ys)∧Hid (Rd wr S i d)∧(w.alloc aH).grownBy wr (some S.g))
  case atStart=>exact ⟨[y],n1,_,_,rfl,by simp; omega,HL,Oc,zT,HR1,zY.out⟩
  case round =>
   obtain ⟨ys,i,p7,c7,rfl,hal,HL2,HO,HK,Gf,hgr⟩:=hrel;have qj:=hid hgr;have zZ:w.heap.size+1≤wr.heap.size:=by have:=hgr.size; omega
   clear hgr
   cases gk with
   | zero=>exact absurd HL2.out (by intro e; exact eQ.out e)
   | succ gk =>
   have yz:=HL2.out;simp only [jJ] at yz;have rC:=hid yz;have DD:Below wr.heap.size wr (wr.alloc (.cells #[.string ⟨#[108,101,116]⟩] 9)):=(Below.refl _ _).alloc (Nat.le_refl _) _;have hat:jY (wr.alloc (.cells #[.string ⟨#[108,101,116]⟩] 9)) wr.heap.size [⟨#[108,101,116]⟩]:=fun i hi=>by
    obtain rfl:i=0:=by simpa using hi
    exact cell_of_heap (heap_alloc_new wr (.cells #[.string ⟨#[108,101,116]⟩] 9)) 0
   have HP:=hid (sQ S i d [⟨#[108,101,116]⟩] wr.heap.size 1 _ (Gf.out.step DD) hat (by simp) (by simp) (by simp));have DF:=hid DD;simp only [List.length_cons,List.length_nil,Nat.zero_add,List.map_cons,List.map_nil] at HP;clear hat DD;clear yz HL2
   cases hm:S.begins [[108,101,116]] i <;> rw [hm] at HP
   ·have iw:Hid (tot=.ok (fB (ys.map Br.pb) 36 n i []) i):=hid (by rw [rC.out,hm]; rfl)
    clear hm rC
    go_wp2_with fail
    refine HP.out.mono ?_
    rintro e w2 ⟨rfl,hb2⟩;have hb2:=DF.out.trans (hb2.mono DF.out.size);have jS:=hid (ownsRow_below HO.out hb2);have pI:=hid (HK.out.step hb2);have jP:=hid (Gf.out.step hb2);have nK:=hid (ae qj.out (grown_below hb2 _));clear hb2
    by_cases h1:ys.length=1
    ·obtain ⟨y,rfl⟩:=List.length_eq_one_iff.1 h1
     obtain ⟨yh,yks⟩:=y;obtain ⟨yk,ym,yf,yt,ynp,ynn,ync,yns,ykp,ykn,ykc⟩:=yh;obtain ⟨gk,ck,hvk,_,hgk,_,_⟩:=iJ jS.out (by simp)
     injection hvk with hk1 hk2 hk3
     subst hk1 hk3;have cell:=fun j u hu=>fQ jS.out j u hu
     have e0:=cell 0 _ rfl;have e1:=cell 1 _ rfl;have e2:=cell 2 _ rfl;have e3:=cell 3 _ rfl;have e4:=cell 4 _ rfl;have e5:=cell 5 _ rfl;simp only [Br.h] at e0 e1 e2 e3 e4 e5;obtain ⟨hyl,hyo⟩:=pI.out _ (List.mem_singleton.2 rfl);have FIN:=hid (bH (o:=tot) _ yk ym yf yt ynp ynn ync yns ykp ykn ykc yks jP.out nK.out hgl aW (by rw [iw.out]; rfl) hyl (hyo.mono (fun q hq=>hq.1) _) rfl);clear cell hyl hyo h1;obtain ⟨c0,c1,c2,c3,c4,c5,f0,f1,f2,f3,f4,f5⟩:=FIN.out.al
     go_wp2_with fail
     obtain ⟨_,_,_,_,_,_,_,d0,d1,d2,d3,d4,d5,hfin⟩:=FIN.out;refine bodyPost_ret (by simp [results,results298,go_sem,d0,d1,d2,d3,d4,d5,Result.andThen]; try rfl) rfl ?_
     exact hfin
    ·have hln:∀ b,ys.map Br.pb≠[b]:=fun b e=>h1 (by have:=congrArg List.length e; simpa using this)
     have UJ:Hid (tot=.ok (node 36 n i [] (ys.map Br.pb)) i):=hid (by rw [iw.out,qZ hln]);have hgk:((ys.length:Int) == 1)=false:=by rw [beq_eq_false_iff_ne]; omega
     have h1i:¬ ((ys.length:Nat):Int)=1:=by omega
     have HB:=hid (az S i d 36 n none 0 0 p7 ys.length c7 w2 jP.out);clear hln;obtain ⟨nl,hnl⟩:∃ nl,nl=ys.length:=⟨_,rfl⟩
     have yE:=hid hnl;rw [← hnl] at jS pI h1 h1i hgk HB ⊢;clear hnl
     go_wp2_with fail
     refine HB.out.mono ?_
     rintro e w7 ⟨rfl,hb7⟩;have HL:=bM (w0:=w) (w1:=w) (N:=w.heap.size+1) 36 0 n i (fK (w:=w7)) (by rw [← yE.out]; exact ownsRow_below jS.out hb7) (pI.out.step hb7);have FIN:=hid (bH (o:=tot) (node 36 n i [] (ys.map Br.pb)) 36 0 n i none 0 0 _ p7 nl c7 ys (jP.out.step hb7) (ae nK.out (grown_below hb7 _)) hgl aW UJ.out HL.1 HL.2 (by simp [Br.pb,eF,node]));clear HL hb7;obtain ⟨c0,c1,c2,c3,c4,c5,f0,f1,f2,f3,f4,f5⟩:=FIN.out.al
     go_wp2_with fail
     obtain ⟨_,_,_,_,_,_,_,d0,d1,d2,d3,d4,d5,hfin⟩:=FIN.out;refine bodyPost_ret (by simp [results,results298,go_sem,d0,d1,d2,d3,d4,d5,Result.andThen]; try rfl) rfl ?_
     exact hfin
   ·have iw:Hid (tot=((iZ S F rec d i).bind fun b n'=>jJ S F rec d gk (ys.map Br.pb++[b]) n').bind fun l n2=>Out.ok (fB l 36 n n2 []) n2):=hid (by rw [rC.out,hm]; rfl)
    have JO:Hid (iZ S F rec d i≠.dry):=hid (aA (aA (by rw [← iw.out]; exact eQ.out)));clear hm rC
    go_wp2_with fail
    refine HP.out.mono ?_
    rintro e w2 ⟨rfl,hb2⟩;have hb2:=DF.out.trans (hb2.mono DF.out.size);have mr:=hid (ownsRow_below HO.out hb2);have JY:=hid (HK.out.step hb2);have HG2:=hid (ae qj.out (grown_below hb2 _));have hz2:w.heap.size+1≤w2.heap.size:=Nat.le_trans zZ hb2.size;have HX:=hid (Ri.out i w2 (Gf.out.step hb2) JO.out);clear hb2 DF HP
    go_wp2_with fail
    refine HX.out.mono ?_
    rintro e w3 (⟨b3,n3,v,hpo,rfl,⟨y3,rfl,hyl,hyo,hyp⟩,hr3,hg3⟩ | ⟨ch,ho,rfl,hg3⟩)
    ·have hz3:=hg3.size
     have Ul:Hid (tot=(jJ S F rec d gk ((ys++[y3]).map Br.pb) n3).bind fun l n2=>Out.ok (fB l 36 n n2 []) n2):=hid (by rw [iw.out,hpo,List.map_append,List.map_cons,List.map_nil,hyp]; rfl);have hB4:Below w3.heap.size w3 (w3.alloc (.cells #[.int .i64 y3.h.k,.int .i64 y3.h.m,.int .i64 y3.h.f,.int .i64 y3.h.t,.slice y3.h.np y3.h.nn y3.h.nc,.slice y3.h.kp y3.h.kn y3.h.kc] 96)):=(Below.refl _ _).alloc (Nat.le_refl _) _;have hO3:=mr.out.kept hg3 (Or.inr (fun e=>by have:=(mr.out.lt _ e).1; omega));have yB:=hid (ownsRow_below hO3 hB4);have Rj:=hid (JY.out.grow hg3 (by omega));have HR4:=hid (hr3.step hB4);have rD:=hid (ae (ae HG2.out hg3) (grown_below hB4 (some S.g)));have TV:=hid (World.news_of_block (heap_alloc_new w3 (.cells #[.int .i64 y3.h.k,.int .i64 y3.h.m,.int .i64 y3.h.f,.int .i64 y3.h.t,.slice y3.h.np y3.h.nn y3.h.nc,.slice y3.h.kp y3.h.kn y3.h.kc] 96)));have yA:=hid (fun q hq=>(yB.out.lt q hq).1);have XD:=hid (fun q hq=>(mr.out.lt q hq).2);have sV:=hid hyl;have rW:=hid hyo;have Qs:w.heap.size+1≤w3.heap.size:=by omega
     clear hpo hyl hyo hyp hr3 hg3 hO3 hB4;generalize Aa:ys.length=al at *;have JU:=hid Aa;clear Aa
     go_wp2_with (at_builtin; refine wpList_append_lies _ rfl _ _ 94 rfl (w.heap.size+1) 96 i0 _ 6 80 underlying94 hi0 hy0 hy1 hy2 rfl (by omega) _ al _ rfl yB.out ⟨w3.heap.size,0,none⟩ 1 1 (hcells y3.h) rfl rfl TV.out (qc y3.h) (by omega) (by unfold maxLen; omega) (by omega) (by simp; omega) (w3.heap.size+1) (by simp) ?_)
     intro g5 c5 w5 hown5 jT JZ Rk;have hall:(ys++[y3]).length=al+1:=by simp [JU.out]
     have Qr:w5.ownsRow (w.heap.size+1) 96 6 (.slice (some ⟨g5,0,none⟩) (ys++[y3]).length c5) (ys++[y3]).length (bg (ys++[y3])):=by
      rw [hall,ji]; simpa [bg] using hown5
     have jS:=hid Qr;have pI:=hid (rX (v5:=.slice (some ⟨g5,0,none⟩) (ys++[y3]).length c5) Rj.out XD.out hz2 hz3 jT JZ rfl sV.out rW.out);have jP:=hid (HR4.out.grow jT (fun e=>by have:=yA.out _ e; omega) (fun e=>by have:=yA.out _ e; omega));have nK:=hid (dm rD.out jT (fun q hq=>by have:=yA.out q hq; omega));clear hown5 jT JZ Rk Qr
     go_wp2_with fail
     go_roundg gk
     case measure=>omega
     case rel=>exact ⟨ys++[y3],n3,_,c5,by rw [hall],by rw [hall]; omega,Ul,jS,pI,jP,nK.out⟩
    ·exact ⟨rfl,Or.inr ⟨ch,by rw [iw.out]; exact ai (ai ho),rfl,ae (grown_below ((Below.refl _ _).alloc (Nat.le_refl _) _) _) (ae HG2.out hg3)⟩⟩
 ·exact ⟨rfl,Or.inr ⟨ch,by rw [dW.out]; exact ai ho,rfl,ae (grown_below ((Below.refl _ _).alloc (Nat.le_refl _) _) _) hg⟩⟩
set_option maxHeartbeats 1000000 in
theorem Ja (S:Src) (F:Nat) (rec:Nt→Nat→Nat→Out Pb) (d:Nat) (hs:Said S rec d) (jo:F≤1000000000) (n:Nat) (w:World) (h:Rd w S n d) (aG:iK S F rec d n≠.dry) :
  Calls prog 274 #[.pointer (some ⟨S.g,0,none⟩)] w fun e w'=>Ends S d w (iK S F rec d n) (RB w) e w':=by
 have hgl:=h.lt;have aW:=h.row;have hbd:=h.bound;have ST0:=hid (St.init h [] ((by simp)));have HS:=hid hs;obtain ⟨tot,htot⟩:∃ tot,tot=iK S F rec d n:=⟨_,rfl⟩
 have HD:Hid (tot≠.dry):=hid (by rw [htot]; exact aG);rw [← htot];unfold iK at htot;have EQ0:=hid htot;clear h aG htot hs
 go_enter func274,ntmps274
 have q2:=ST0.out.rd.c2;have HC:=hid (xu S F rec d jo (fun k w' hr hnd=>CO S F rec d HS.out jo k w' hr (fun k w' hr hnd=>oh S F rec d HS.out jo 0 k w' hr hnd) hnd) ((n)) _ ST0.out.rd (aA (by rw [← EQ0.out]; exact HD.out)))
 go_wp2_with fail
 refine HC.out.mono ?_
 rintro e w2 (⟨x2,n2,v2,hpo,rfl,⟨y2,hv,hyl,hyo,rfl⟩,hr,hg⟩ | ⟨ch,ho,rfl,hg⟩)
 rotate_left
 ·exact ⟨rfl,Or.inr ⟨ch,by rw [EQ0.out]; exact ai (ho),rfl,ST0.out.pan hg⟩⟩
 have e3:=EQ0.out;rw [show _=Out.ok _ _ from hpo,bind_ok] at e3;have EQ3:=hid e3;clear e3 EQ0;have DW:=hid (And.intro hyl (hyo.mono (fun q hq=>Nat.le_trans ST0.out.size hq) _));simp only [Hd.val] at hv;subst hv;have ST4:=hid (ST0.out.grow hr hg);clear hr hg ST0 hyl hyo hpo HC;clear q2;have UK:∀ u ∈ [y2],u.Lies w2∧u.On (fun q=>(w.alloc aH).heap.size≤q):=(List.forall_mem_cons.2 ⟨DW.out,(fun _ h=>nomatch h)⟩)
 have ST5:Hid (St S _ d _ (w2.alloc (.cells #[.int .i64 y2.h.k,.int .i64 y2.h.m,.int .i64 y2.h.f,.int .i64 y2.h.t,.slice y2.h.np y2.h.nn y2.h.nc,.slice y2.h.kp y2.h.kn y2.h.kc] 96)) _):=hid (ST4.out.newK [y2] (by simp) UK);clear UK;have ST6:=hid (ST5.out.addN (v:=.slice none 0 0) (l:=[]) St.noN);clear ST5;have HX0:Hid (∀ p ∈ [((.slice (some ⟨w2.heap.size,0,none⟩) 1 1:Value),([y2]:List Br))],∀ y ∈ p.2,y.On fun q=>some q≠(.slice none 0 0:Value).ownBlock):=hid (fun p hp y hy=>(Br.On.all y).mono (fun q _=>by simp [Value.ownBlock]) _)
 go_wp2_with fail
 go_loopg [4,5] F (fun gk v4 v5 wr=>∃ (ys:List Br) (sg:List Nat) (i:Nat) (p4:Option Addr) (cc4:Nat) (p5:Option Addr) (cc5:Nat),v4=.slice p4 ys.length cc4∧v5=.slice p5 sg.length cc5∧ys.length+gk≤F+1∧sg.length+gk≤F∧Hid (tot=(jG S F rec d gk sg (ys.map Br.pb) i).bind fun l n2=>Out.ok (fB l.2 37 n n2 l.1) n2)∧Hid (St S (w.alloc aH) d ⟨[],[],[(.slice p5 sg.length cc5,sg)],[(.slice p4 ys.length cc4,ys)]⟩ wr i)∧Hid (∀ p ∈ [((.slice p4 ys.length cc4:Value),(ys:List Br))],∀ y ∈ p.2,y.On fun q=>some q≠(.slice p5 sg.length cc5:Value).ownBlock))
 case atStart=>exact ⟨[y2],[],n2,_,_,_,_,rfl,rfl,by simp; omega,by simp,EQ3,ST6,HX0⟩
 case round =>
  obtain ⟨ys,sg,i,p4,cc4,p5,cc5,rfl,rfl,hal,hsl,HL,STr,XV⟩:=hrel
  cases gk with
  | zero=>exact absurd HL.out (by intro e; exact HD.out e)
  | succ gk =>
  have hls:=HL.out;simp only [jG] at hls;have EQr:=hid hls;clear hls HL
  cases h9:S.kd i == 9
  ·have e7:=EQr.out
   simp only [h9,cond_false] at e7;have EQ7:=hid e7;clear e7 EQr;have e8:=EQ7.out;simp only [bind_ok] at e8;have EQ8:=hid e8;clear e8 EQ7;have HP:=hid (bG S (i) d _ STr.out.rd)
   go_wp2_with fail
   refine HP.out.mono ?_
   rintro e w9 ⟨rfl,hb⟩;have ST10:=hid (STr.out.below hb);clear hb STr HP;clear XV hsl
   by_cases h1:ys.length=1
   ·obtain ⟨y,rfl⟩:=List.length_eq_one_iff.1 h1
    have hks:=ST10.out.ks (.slice p4 [y].length cc4,[y]) (by simp)
    simp only at hks
    obtain ⟨gk4,ck,hvk,_,hgk,_,_⟩:=iJ hks.1 (by simp)
    injection hvk with hk1 hk2 hk3
    subst hk1 hk3;have cell:=fun j u hu=>fQ hks.1 j u hu
    have e0:=cell 0 _ rfl;have e1:=cell 1 _ rfl;have e2:=cell 2 _ rfl;have e3:=cell 3 _ rfl;have e4:=cell 4 _ rfl;have e5:=cell 5 _ rfl;obtain ⟨hyl,hyo⟩:=hks.2 _ (List.mem_singleton.2 rfl);have FIN:=hid (ST10.out.finY (o:=tot) hgl aW hyl (hyo.mono (fun q hq=>hq.1) _) (by rw [EQ8.out]; rfl));clear cell hyl hyo h1 hks ST10 EQ8;obtain ⟨c0,c1,c2,c3,c4,c5,f0,f1,f2,f3,f4,f5⟩:=FIN.out.al
    go_wp2_with fail
    obtain ⟨_,_,_,_,_,_,_,d0,d1,d2,d3,d4,d5,hfin⟩:=FIN.out;refine bodyPost_ret (by simp [results,results274,go_sem,d0,d1,d2,d3,d4,d5,Result.andThen]; try rfl) rfl ?_
    exact hfin
   ·have hln:∀ b,ys.map Br.pb≠[b]:=fun b e=>h1 (by have:=congrArg List.length e; simpa using this)
    have hgk:((ys.length:Int) == 1)=false:=by rw [beq_eq_false_iff_ne]; omega
    have h1i:¬ ((ys.length:Nat):Int)=1:=by omega
    have e11:=EQ8.out;rw [qZ hln] at e11;have EQ11:=hid e11;clear e11 EQ8;clear hln;have HB:=hid (az S (i) d 37 (n:Nat) p5 sg.length cc5 p4 ys.length cc4 _ ST10.out.rd)
    go_wp2_with fail
    refine HB.out.mono ?_
    rintro e w12 ⟨rfl,hb⟩;have ST13:=hid (ST10.out.below hb);clear hb ST10 HB;have FIN:=hid (ST13.out.fin (k:=37) (m:=0) (f:=n) hgl aW (ST13.out.ns (.slice p5 sg.length cc5,sg) (by simp)) (ST13.out.ks (.slice p4 ys.length cc4,ys) (by simp)) EQ11.out);clear ST13 EQ11;obtain ⟨c0,c1,c2,c3,c4,c5,f0,f1,f2,f3,f4,f5⟩:=FIN.out.al
    go_wp2_with fail
    obtain ⟨_,_,_,_,_,_,_,d0,d1,d2,d3,d4,d5,hfin⟩:=FIN.out;refine bodyPost_ret (by simp [results,results274,go_sem,d0,d1,d2,d3,d4,d5,Result.andThen]; try rfl) rfl ?_
    exact hfin
  ·have e7:=EQr.out
   simp only [h9,cond_true] at e7;have EQ7:=hid e7;clear e7 EQr;have HP:=hid (bG S (i) d _ STr.out.rd)
   go_wp2_with fail
   refine HP.out.mono ?_
   rintro e w8 ⟨rfl,hb⟩;have ST9:=hid (STr.out.below hb);clear hb STr HP;have HC:=hid (take1 S ((i)) d 9 (by decide) _ ST9.out.rd)
   go_wp2_with fail
   refine HC.out.mono ?_
   rintro e w10 (⟨x10,n10,v10,hpo,rfl,hv,hr,hg⟩ | ⟨ch,ho,rfl,hg⟩)
   rotate_left
   ·exact ⟨rfl,Or.inr ⟨ch,by rw [EQ7.out]; exact ai (ai (ho)),rfl,ST9.out.pan hg⟩⟩
   have e11:=EQ7.out;rw [show _=Out.ok _ _ from hpo,bind_ok] at e11;have EQ11:=hid e11;clear e11 EQ7;obtain rfl:v10=.int .i64 (x10:Int):=hv;have ST12:=hid (ST9.out.grow hr hg);clear hr hg ST9 hpo HC;have Qx:=hid (World.news_of_block (heap_alloc_new w10 (.cells #[.int .i64 (x10:Int)] 3)));have STa:=hid (ST12.out.below ((Below.refl w10.heap.size w10).alloc (Nat.le_refl _) (.cells #[.int .i64 (x10:Int)] 3)));clear ST12
   go_wp2_with (at_builtin; refine Df rfl _ _ rfl STa (.slice p5 sg.length cc5) sg x10 (by simp) sg.length 1 rfl rfl ⟨w10.heap.size,0,none⟩ rfl Qx.out XV (by omega) ?_)
   intro g7 cp7 w7q STn HXn;clear Qx STa XV;have HC:=hid (xu S F rec d jo (fun k w' hr hnd=>CO S F rec d HS.out jo k w' hr (fun k w' hr hnd=>oh S F rec d HS.out jo 0 k w' hr hnd) hnd) ((n10)) _ STn.out.rd (aA (aA (by rw [← EQ11.out]; exact HD.out))))
   go_wp2_with fail
   refine HC.out.mono ?_
   rintro e w13 (⟨x13,n13,v13,hpo,rfl,⟨y13,hv,hyl,hyo,rfl⟩,hr,hg⟩ | ⟨ch,ho,rfl,hg⟩)
   rotate_left
   ·exact ⟨rfl,Or.inr ⟨ch,by rw [EQ11.out]; exact ai (ai (ho)),rfl,STn.out.pan hg⟩⟩
   have e14:=EQ11.out;rw [show _=Out.ok _ _ from hpo,bind_ok] at e14;have EQ14:=hid e14;clear e14 EQ11;have KC:=hid (And.intro hyl (hyo.mono (fun q hq=>Nat.le_trans STn.out.size hq) _));simp only [Hd.val] at hv;subst hv;have RD:=hid (And.intro hyl (iD (STn.out.ks (.slice p4 ys.length cc4,ys) (by simp)).1 STn.out.size hyo));have XW:=hid (iD (STn.out.ns (.slice (some ⟨g7,0,none⟩) (sg.length+1) cp7,(sg++[x10])) (by simp)) STn.out.size hyo);have ST15:=hid (STn.out.grow hr hg);clear hr hg STn hyl hyo hpo HC;have HZ:Hid (∀ z ∈ [y13],z.Lies (w13.alloc (BC y13.h))∧z.On (fun q=>(w.alloc aH).heap.size≤q∧some q≠(.slice p4 ys.length cc4:Value).ownBlock)):=hid (List.forall_mem_cons.2 ⟨And.intro (RD.out.1.step _ ((Below.refl w13.heap.size w13).alloc (Nat.le_refl _) (BC y13.h))) RD.out.2,(fun _ h=>nomatch h)⟩);have STa:=hid (ST15.out.below ((Below.refl w13.heap.size w13).alloc (Nat.le_refl _) (BC y13.h)));clear ST15 KC RD
   go_wp2_with (at_builtin; refine dY rfl _ _ rfl STa (.slice p4 ys.length cc4) ys [y13] (by simp) ys.length 1 1 rfl rfl ⟨w13.heap.size,0,none⟩ rfl rfl jA HZ.out (by omega) (by omega) ?_)
   intro g16 cp16 w16 ST16;clear HZ STa
   go_wp2_with fail
   go_roundg gk
   case measure=>omega
   case rel=>exact ⟨ys++[y13],sg++[x10],n13,_,_,_,_,by rw [List.length_append]; rfl,by rw [List.length_append]; rfl,by simp only [List.length_append,List.length_cons,List.length_nil]; omega,by simp only [List.length_append,List.length_cons,List.length_nil]; omega,hid (by have e:=EQ14.out; simpa using e),hid (by have e:=ST16.out; rw [show (ys++[y13]).length=ys.length+1 by simp,show (sg++[x10]).length=sg.length+1 by simp]; exact e),hid (fun p hp z hz=>by
    obtain rfl:=List.mem_singleton.1 hp;rw [show (sg++[x10]).length=sg.length+1 by simp]
    rcases List.mem_append.1 hz with hz | hz
    ·first | exact HXn.out _ (List.mem_singleton.2 rfl) z hz | exact HXn.out z hz
    ·obtain rfl:=List.mem_singleton.1 hz
     exact XW.out.mono (fun q hq=>hq.2) _)⟩
end Go.Proofs.YtmpmfamiegpmgaaGreatDoor
