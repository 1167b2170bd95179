/-
  The reader's tuple.; The reader's plain.; The reader's atomicPat.; The reader's constructor.; One datatype that is declared, out of the contract of typeName (84).; The reader's typeName.; The reader's datatypes, out of the contract of one (109).
-/
import Derived.Test.YtmpmfamiegpmgaaGreatDoorGG
import Derived.Test.YtmpmfamiegpmgaaGreatDoorGI
namespace Go.Proofs.YtmpmfamiegpmgaaGreatDoor
open Tryz
open Go.Lib (cell_of_heap hid)
open Go.RowKit
set_option maxRecDepth 20000
set_option linter.unusedVariables false
set_option linter.unusedSimpArgs false
set_option maxHeartbeats 2000000 in
theorem JF (m:Nat) (hcf:∀ args w,Sem.run prog (callFunc m args) w=.ok (.enter m args) w) (S:Src) (F fr n d:Nat) (read:Nat→Out Pb) (w:World) (h:Rd w S n d) (hF:F≤1000000000)
  (hread:∀ k w',Rd w' S k d→read k≠.dry→Calls prog m #[.pointer (some ⟨S.g,0,none⟩)] w' (fun e w''=>Ends S d w' (read k) (RB w') e w''))
  (aG:je S F fr read n≠.dry) :
  Calls prog 305 #[.pointer (some ⟨S.g,0,none⟩),.int .i64 (fr:Int),.func (.func m) #[] #[]] w fun e w'=>Ends S d w (je S F fr read n) (RB w) e w':=by
 have hgl:=h.lt;have aW:=h.row;have hb1:Below w.heap.size w (w.alloc aH):=(Below.refl w.heap.size w).alloc (Nat.le_refl _) _;have hr1:=h.step hb1;have HP:=hid (aC S n d ⟨#[41]⟩ _ hr1 (by simp))
 simp only at HP
 unfold je at aG ⊢;clear hr1 hb1 h
 cases hp:S.is n [41]
 ·rw [hp] at aG HP
  simp only [cond_false] at aG HP ⊢;have eQ:=hid aG;clear aG
  go_enter func305,ntmps305
  go_wp2_with fail
  refine HP.out.mono ?_
  rintro e w3 ⟨rfl,hr3,hg3⟩;have iQ:=hid hg3;have HW:=hid (kH m #[] hcf S F n d ⟨#[44]⟩ read w3 hr3 (by simp) hF (fun k w' hr _ hnd=>hread k w' hr hnd) (aA eQ.out));clear hr3 hg3
  go_wp2_with fail
  refine HW.out.mono ?_
  rintro e w4 (⟨l,n4,v,hpo,rfl,⟨ys,hown,hK,hmap⟩,hr4,hg4⟩ | ⟨ch,ho,rfl,hg4⟩)
  ·obtain ⟨kp,kc,rfl⟩:=dP hown
   have hz3:w.heap.size+1≤w3.heap.size:=by have:=iQ.out.size; simpa using this
   have rD:=hid (ae iQ.out hg4);have yB:=hid (own_base (base':=w.heap.size+1) hown hz3);have TW:Hid (Kids (w.heap.size+1) (.slice kp ys.length kc) w4 ys):=hid (fun y hy=>⟨(hK y hy).1,(hK y hy).2.mono (fun q hq=>⟨by omega,hq.2⟩) _⟩);have qi:=hid hpo;have mD:=hid hmap;have HN:=hid (bF S n4 d ⟨#[41]⟩ w4 hr4 (by simp));clear hpo hown hK hmap hr4 hg4
   go_wp2_with fail
   refine HN.out.mono ?_
   rintro e w5 (⟨u,n5,v,J4,rfl,hv,pG,hg5⟩ | ⟨ch,ho,rfl,hg5⟩)
   ·obtain rfl:v=.tuple #[]:=hv
    have jS:=hid (yB.out.kept hg5 (Or.inr (fun e=>by have:=(yB.out.lt _ e).1; omega)));have pI:=hid (TW.out.grow hg5 (by omega));have nK:=hid (ae rD.out hg5);have jP:=hid pG;have J5:=hid J4;clear J4 pG hg5
    by_cases h1:ys.length=1
    ·obtain ⟨y,rfl⟩:=List.length_eq_one_iff.1 h1
     obtain ⟨yh,yks⟩:=y;obtain ⟨yk,ym,yf,yt,ynp,ynn,ync,yns,ykp,ykn,ykc⟩:=yh;obtain ⟨gk,ck,hvk,_,hgk,_,_⟩:=iJ jS.out (by simp)
     injection hvk with hk1 hk2 hk3
     subst hk1 hk3;have cell:=fun j u hu=>fQ jS.out j u hu
     have e0:=cell 0 _ rfl;have e1:=cell 1 _ rfl;have e2:=cell 2 _ rfl;have e3:=cell 3 _ rfl;have e4:=cell 4 _ rfl;have e5:=cell 5 _ rfl;simp only [Br.h] at e0 e1 e2 e3 e4 e5;obtain ⟨hyl,hyo⟩:=pI.out _ (List.mem_singleton.2 rfl);have FIN:=hid (bH (o:=((gK S F [44] read n).bind fun l n1=>(S.need [41] n1).bind fun _ n2=>Out.ok (fB l 30 fr n2 []) n2)) _ yk ym yf yt ynp ynn ync yns ykp ykn ykc yks jP.out nK.out hgl aW (by rw [qi.out,bind_ok,J5.out,bind_ok,← mD.out]; rfl) hyl (hyo.mono (fun q hq=>hq.1) _) rfl);clear cell hyl hyo h1;obtain ⟨c0,c1,c2,c3,c4,c5,f0,f1,f2,f3,f4,f5⟩:=FIN.out.al
     go_wp2_with fail
     obtain ⟨_,_,_,_,_,_,_,d0,d1,d2,d3,d4,d5,hfin⟩:=FIN.out;refine bodyPost_ret (by simp [results,results305,go_sem,d0,d1,d2,d3,d4,d5,Result.andThen]; try rfl) rfl ?_
     exact hfin
    ·have hln:∀ b,l≠[b]:=fun b e=>h1 (by have:=congrArg List.length (mD.out.trans e); simpa using this)
     have dW:Hid (((gK S F [44] read n).bind fun l n1=>(S.need [41] n1).bind fun _ n2=>Out.ok (fB l 30 fr n2 []) n2)=.ok (node 30 fr n5 [] l) n5):=hid (by rw [qi.out,bind_ok,J5.out,bind_ok,qZ hln]);have hgk:((ys.length:Int) == 1)=false:=by rw [beq_eq_false_iff_ne]; omega
     have h1i:¬ ((ys.length:Nat):Int)=1:=by omega
     have HB:=hid (az S n5 d 30 fr none 0 0 kp ys.length kc w5 jP.out);clear hln;obtain ⟨nl,hnl⟩:∃ nl,nl=ys.length:=⟨_,rfl⟩
     have yE:=hid hnl;rw [← hnl] at jS pI h1 h1i hgk HB ⊢;clear hnl
     go_wp2_with fail
     refine HB.out.mono ?_
     rintro e w7 ⟨rfl,hb7⟩;have HL:=bM (w0:=w) (w1:=w) (N:=w.heap.size+1) 30 0 fr n5 (fK (w:=w7)) (by rw [← yE.out]; exact ownsRow_below jS.out hb7) (pI.out.step hb7);have FIN:=hid (bH (o:=((gK S F [44] read n).bind fun l n1=>(S.need [41] n1).bind fun _ n2=>Out.ok (fB l 30 fr n2 []) n2)) (node 30 fr n5 [] l) 30 0 fr n5 none 0 0 _ kp nl kc ys (jP.out.step hb7) (ae nK.out (grown_below hb7 _)) hgl aW dW.out HL.1 HL.2 (by rw [← mD.out]; simp [Br.pb,eF,node]));clear HL hb7;obtain ⟨c0,c1,c2,c3,c4,c5,f0,f1,f2,f3,f4,f5⟩:=FIN.out.al
     go_wp2_with fail
     obtain ⟨_,_,_,_,_,_,_,d0,d1,d2,d3,d4,d5,hfin⟩:=FIN.out;refine bodyPost_ret (by simp [results,results305,go_sem,d0,d1,d2,d3,d4,d5,Result.andThen]; try rfl) rfl ?_
     exact hfin
   ·exact ⟨rfl,Or.inr ⟨ch,by rw [qi.out,bind_ok]; exact ai ho,rfl,ae (grown_below ((Below.refl _ _).alloc (Nat.le_refl _) _) _) (ae rD.out hg5)⟩⟩
  ·exact ⟨rfl,Or.inr ⟨ch,ai ho,rfl,ae (grown_below ((Below.refl _ _).alloc (Nat.le_refl _) _) _) (ae iQ.out hg4)⟩⟩
 ·rw [hp] at aG HP
  simp only [cond_true] at aG HP ⊢;clear aG
  go_enter func305,ntmps305
  go_wp2_with fail
  refine HP.out.mono ?_
  rintro e w3 ⟨rfl,hr3,hg3⟩;have iQ:=hid hg3;have HR3:=hid hr3;have HB:=hid (az S (n+1) d 30 fr none 0 0 none 0 0 w3 hr3);clear hr3 hg3
  go_wp2_with fail
  refine HB.out.mono ?_
  rintro e w7 ⟨rfl,hb7⟩;have FIN:=hid (bH (o:=Out.ok (node 30 fr (n+1) [] []) (n+1)) (node 30 fr (n+1) [] []) 30 0 fr ((n:Int)+1) none 0 0 [] none 0 0 [] (HR3.out.step hb7) (ae iQ.out (grown_below hb7 _)) hgl aW rfl (lV _ _ _ _ _) (qP _ _ _ _ _) (by simp [Br.pb,pbs,node]));clear hb7;obtain ⟨c0,c1,c2,c3,c4,c5,f0,f1,f2,f3,f4,f5⟩:=FIN.out.al
  go_wp2_with fail
  obtain ⟨_,_,_,_,_,_,_,d0,d1,d2,d3,d4,d5,hfin⟩:=FIN.out;refine bodyPost_ret (by simp [results,results305,go_sem,d0,d1,d2,d3,d4,d5,Result.andThen]; try rfl) rfl ?_
  exact hfin
set_option maxHeartbeats 2000000 in
theorem vC (m:Nat) (hcf:∀ args w,Sem.run prog (callFunc m args) w=.ok (.enter m args) w) (S:Src) (F n d:Nat) (named:Int) (read:Nat→Out Pb) (w:World) (h:Rd w S n d) (hF:F≤1000000000)
  (hread:∀ k w',Rd w' S k d→read k≠.dry→Calls prog m #[.pointer (some ⟨S.g,0,none⟩)] w' (fun e w''=>Ends S d w' (read k) (RB w') e w''))
  (aG:plainO S F named read n≠.dry) :
  Calls prog 297 #[.pointer (some ⟨S.g,0,none⟩),.int .i64 named,.func (.func m) #[] #[]] w fun e w'=>Ends S d w (plainO S F named read n) (RB w) e w':=by
 have hgl:=h.lt;have aW:=h.row;have hbd:=h.bound;have hb1:Below w.heap.size w (w.alloc aH):=(Below.refl w.heap.size w).alloc (Nat.le_refl _) _;have hr1:=h.step hb1;have HR1:=hid hr1;have q2:=hr1.c2;have zT:=hid (bG S n d _ hr1);unfold plainO at aG ⊢;clear hr1 hb1 h
 cases h4:(S.kd n == 4)
 ·rw [h4] at aG
  simp only [cond_false] at aG ⊢
  cases h5:(S.kd n == 5)
  ·rw [h5] at aG
   simp only [cond_false] at aG ⊢
   cases hp:S.is n [40]
   ·rw [hp] at aG
    simp only [cond_false] at aG ⊢
    go_enter func297,ntmps297
    go_wp2_with fail
    refine zT.out.mono ?_
    rintro e w1 ⟨rfl,hb1⟩;have HB1:=hid hb1;have JY:=hid (bG S n d w1 (HR1.out.step hb1));clear hb1
    go_wp2_with fail
    refine JY.out.mono ?_
    rintro e w2 ⟨rfl,hb2⟩;have hb2:=HB1.out.trans (hb2.mono HB1.out.size);have hr2:=HR1.out.step hb2;have HG2:=hid (grown_below hb2 (some S.g));have HP:=hid (aC S n d ⟨#[40]⟩ w2 hr2 (by simp))
    simp only at HP
    rw [hp] at HP;clear hr2 hb2
    go_wp2_with fail
    refine HP.out.mono ?_
    rintro e w3 ⟨rfl,hr3,hg3⟩;have iQ:=hid (ae HG2.out hg3);have HT:=hid (qf S n d w3 hr3);clear hr3 hg3
    go_wp2_with fail
    refine HT.out.mono ?_
    rintro e w4 (⟨p,n4,v,hpo,rfl,hv,hr4,hg4⟩ | ⟨ch,ho,rfl,hg4⟩)
    ·obtain rfl:v=.int .i64 (p:Int):=hv
     have hb5:Below w4.heap.size w4 (w4.alloc (.cells #[.int .i64 (p:Int)] 3)):=(Below.refl _ _).alloc (Nat.le_refl _) _;have rD:=hid (ae (ae iQ.out hg4) (grown_below hb5 _));have hk4:w.heap.size+1≤w4.heap.size:=by have h1:=iQ.out.size; have h2:=hg4.size; have h3:(w.alloc aH).heap.size=w.heap.size+1:=(by simp); omega
     have WZ:=hid (heap_alloc_new w4 (.cells #[.int .i64 (p:Int)] 3));have qi:=hid hpo;have HR4:=hid (hr4.step hb5);have HB:=hid (az S n4 d named n (some ⟨w4.heap.size,0,none⟩) 1 1 none 0 0 _ HR4.out);clear hpo hr4 hg4 hb5
     go_wp2_with fail
     refine HB.out.mono ?_
     rintro e w5 ⟨rfl,hb5⟩;have hown:w5.ownsRow (w.heap.size+1) 3 1 (.slice (some ⟨w4.heap.size,0,none⟩) 1 1) [p].length ([p].map mkN):=dB ((hb5.block _ (Array.getElem?_eq_some_iff.1 WZ.out).1).trans WZ.out) hk4 rfl (by unfold maxLen; omega);have HL:=bM (w0:=w) (w1:=w) named 0 n n4 hown gY.1 gY.2;have FIN:=hid (bH (o:=(S.value n).bind fun m n1=>Out.ok (node named n n1 [m] []) n1) (node named n n4 [p] []) named 0 n n4 (some ⟨w4.heap.size,0,none⟩) 1 1 _ none 0 0 [] (HR4.out.step hb5) (ae rD.out (grown_below hb5 _)) hgl aW (by rw [qi.out]; rfl) HL.1 HL.2 (by simp [Br.pb,pbs,node]));clear HL hb5 hown;obtain ⟨c0,c1,c2,c3,c4,c5,f0,f1,f2,f3,f4,f5⟩:=FIN.out.al
     go_wp2_with fail
     obtain ⟨_,_,_,_,_,_,_,d0,d1,d2,d3,d4,d5,hfin⟩:=FIN.out;refine bodyPost_ret (by simp [results,results297,go_sem,d0,d1,d2,d3,d4,d5,Result.andThen]; try rfl) rfl ?_
     exact hfin
    ·exact ⟨rfl,Or.inr ⟨ch,ai ho,rfl,ae (grown_below ((Below.refl _ _).alloc (Nat.le_refl _) _) _) (ae iQ.out hg4)⟩⟩
   ·rw [hp] at aG
    simp only [cond_true] at aG ⊢;have eQ:=hid aG;clear aG
    go_enter func297,ntmps297
    go_wp2_with fail
    refine zT.out.mono ?_
    rintro e w1 ⟨rfl,hb1⟩;have HB1:=hid hb1;have JY:=hid (bG S n d w1 (HR1.out.step hb1));clear hb1
    go_wp2_with fail
    refine JY.out.mono ?_
    rintro e w2 ⟨rfl,hb2⟩;have hb2:=HB1.out.trans (hb2.mono HB1.out.size);have hr2:=HR1.out.step hb2;have HG2:=hid (grown_below hb2 (some S.g));have HP:=hid (aC S n d ⟨#[40]⟩ w2 hr2 (by simp))
    simp only at HP
    rw [hp] at HP;clear hr2 hb2
    go_wp2_with fail
    refine HP.out.mono ?_
    rintro e w3 ⟨rfl,hr3,hg3⟩;have iQ:=hid (ae HG2.out hg3);have HT:=hid (JF m hcf S F n (n+1) d read w3 hr3 hF hread eQ.out);have hz3:w.heap.size+1≤w3.heap.size:=by have:=iQ.out.size; simpa using this
    clear hr3 hg3
    go_wp2_with fail
    refine HT.out.mono ?_
    rintro e w4 (⟨b,n4,v,hpo,rfl,⟨y,rfl,hyl,hyo,hyp⟩,hr4,hg4⟩ | ⟨ch,ho,rfl,hg4⟩)
    ·obtain ⟨⟨yk,ym,yf,yt,ynp,ynn,ync,yns,ykp,ykn,ykc⟩,yks⟩:=y
     have FIN:=hid (bH (o:=je S F n read (n+1)) b yk ym yf yt ynp ynn ync yns ykp ykn ykc yks hr4 (ae iQ.out hg4) hgl aW hpo hyl (hyo.mono (fun q hq=>by omega) _) hyp);clear hpo hyl hyo hyp hr4 hg4;simp only [Hd.val,Br.h] at *;obtain ⟨c0,c1,c2,c3,c4,c5,f0,f1,f2,f3,f4,f5⟩:=FIN.out.al
     go_wp2_with fail
     obtain ⟨_,_,_,_,_,_,_,d0,d1,d2,d3,d4,d5,hfin⟩:=FIN.out;refine bodyPost_ret (by simp [results,results297,go_sem,d0,d1,d2,d3,d4,d5,Result.andThen]; try rfl) rfl ?_
     exact hfin
    ·exact ⟨rfl,Or.inr ⟨ch,ho,rfl,ae (grown_below ((Below.refl _ _).alloc (Nat.le_refl _) _) _) (ae iQ.out hg4)⟩⟩
  ·rw [h5] at aG
   simp only [cond_true] at aG ⊢;have hk0:S.kd n≠0:=by intro e; rw [e] at h5; cases h5
   go_enter func297,ntmps297
   go_wp2_with fail
   refine zT.out.mono ?_
   rintro e w1 ⟨rfl,hb1⟩;have HB1:=hid hb1;have JY:=hid (bG S n d w1 (HR1.out.step hb1));clear hb1
   go_wp2_with fail
   refine JY.out.mono ?_
   rintro e w2 ⟨rfl,hb2⟩;have hb2:=HB1.out.trans (hb2.mono HB1.out.size);have hr2:=HR1.out.step hb2;have hmore:=hr2.moreK hk0;have F9:=hid (hr2.bump hmore);have d2:=hr2.c2;have fz2:=hr2.free 2;have HG2:=hid (ae (grown_below hb2 (some S.g)) (aN S.g 2 (.int .i64 ((n:Int)+1))));have HB:=hid (az S (n+1) d 27 n none 0 0 none 0 0 _ F9.out);clear hr2 hb2 hk0
   go_wp2_with fail
   refine HB.out.mono ?_
   rintro e w5 ⟨rfl,hb5⟩;have FIN:=hid (bH (o:=Out.ok (node 27 n (n+1) [] []) (n+1)) (node 27 n (n+1) [] []) 27 0 n ((n:Int)+1) none 0 0 [] none 0 0 [] (F9.out.step hb5) (ae HG2.out (grown_below hb5 _)) hgl aW rfl (lV _ _ _ _ _) (qP _ _ _ _ _) (by simp [Br.pb,pbs,node]));clear hb5 F9 d2 fz2;obtain ⟨c0,c1,c2,c3,c4,c5,f0,f1,f2,f3,f4,f5⟩:=FIN.out.al
   go_wp2_with fail
   obtain ⟨_,_,_,_,_,_,_,d0,d1,d2,d3,d4,d5,hfin⟩:=FIN.out;refine bodyPost_ret (by simp [results,results297,go_sem,d0,d1,d2,d3,d4,d5,Result.andThen]; try rfl) rfl ?_
   exact hfin
 ·rw [h4] at aG
  simp only [cond_true] at aG ⊢;have hk0:S.kd n≠0:=by intro e; rw [e] at h4; cases h4
  go_enter func297,ntmps297
  go_wp2_with fail
  refine zT.out.mono ?_
  rintro e w2 ⟨rfl,hb2⟩;have hr2:=HR1.out.step hb2;have hmore:=hr2.moreK hk0;have F9:=hid (hr2.bump hmore);have d2:=hr2.c2;have fz2:=hr2.free 2;have HG2:=hid (ae (grown_below hb2 (some S.g)) (aN S.g 2 (.int .i64 ((n:Int)+1))));have HB:=hid (az S (n+1) d 26 n none 0 0 none 0 0 _ F9.out);clear hr2 hb2 hk0
  go_wp2_with fail
  refine HB.out.mono ?_
  rintro e w5 ⟨rfl,hb5⟩;have FIN:=hid (bH (o:=Out.ok (node 26 n (n+1) [] []) (n+1)) (node 26 n (n+1) [] []) 26 0 n ((n:Int)+1) none 0 0 [] none 0 0 [] (F9.out.step hb5) (ae HG2.out (grown_below hb5 _)) hgl aW rfl (lV _ _ _ _ _) (qP _ _ _ _ _) (by simp [Br.pb,pbs,node]));clear hb5 F9 d2 fz2;obtain ⟨c0,c1,c2,c3,c4,c5,f0,f1,f2,f3,f4,f5⟩:=FIN.out.al
  go_wp2_with fail
  obtain ⟨_,_,_,_,_,_,_,d0,d1,d2,d3,d4,d5,hfin⟩:=FIN.out;refine bodyPost_ret (by simp [results,results297,go_sem,d0,d1,d2,d3,d4,d5,Result.andThen]; try rfl) rfl ?_
  exact hfin
theorem ZL (args:Array Value) (w:World):Sem.run prog (callFunc 230 args) w=.ok (.enter 230 args) w:=aV func230 (by kernel_rfl) (by kernel_rfl) args w
set_option maxHeartbeats 2000000 in
theorem iF (S:Src) (F:Nat) (rec:Nt→Nat→Nat→Out Pb) (d:Nat) (hs:Said S rec d) (hF:F≤1000000000) (n:Nat) (w:World) (h:Rd w S n d) (aG:bZ S F rec d n≠.dry) :
  Calls prog 270 #[.pointer (some ⟨S.g,0,none⟩)] w fun e w'=>Ends S d w (bZ S F rec d n) (RB w) e w':=by
 have hgl:=h.lt;have aW:=h.row;have hbd:=h.bound;have hb1:Below w.heap.size w (w.alloc aH):=(Below.refl w.heap.size w).alloc (Nat.le_refl _) _;have hr1:=h.step hb1;have q2:=hr1.c2;have HP:=hid (aC S n d ⟨#[95]⟩ _ hr1 (by simp))
 simp only at HP
 unfold bZ at aG ⊢;clear hr1 hb1 h
 cases hp:S.is n [95]
 ·rw [hp] at aG HP
  simp only [cond_false] at aG HP ⊢
  cases h7:(S.kd n == 7)
  ·rw [h7] at aG
   simp only [cond_false] at aG ⊢;have eQ:=hid aG;clear aG
   go_enter func270,ntmps270
   go_wp2_with fail
   refine HP.out.mono ?_
   rintro e w2 ⟨rfl,hr2,hg2⟩;have HG2:=hid hg2;have HR2:=hid hr2;have HK:=hid (bG S n d w2 hr2);clear hr2 hg2
   go_wp2_with fail
   refine HK.out.mono ?_
   rintro e w3 ⟨rfl,hb3⟩;have iQ:=hid (ae HG2.out (grown_below hb3 _));have HT:=hid (vC 230 ZL S F n d 39 (rec .pat d) w3 (HR2.out.step hb3) hF (fun k w' hr hnd=>hs.pat k w' hr hnd) eQ.out);have hz3:w.heap.size+1≤w3.heap.size:=by have:=iQ.out.size; simpa using this
   clear hb3
   go_wp2_with fail
   refine HT.out.mono ?_
   rintro e w4 (⟨b,n4,v,hpo,rfl,⟨y,rfl,hyl,hyo,hyp⟩,hr4,hg4⟩ | ⟨ch,ho,rfl,hg4⟩)
   ·obtain ⟨⟨yk,ym,yf,yt,ynp,ynn,ync,yns,ykp,ykn,ykc⟩,yks⟩:=y
    have FIN:=hid (bH (o:=plainO S F 39 (rec .pat d) n) b yk ym yf yt ynp ynn ync yns ykp ykn ykc yks hr4 (ae iQ.out hg4) hgl aW hpo hyl (hyo.mono (fun q hq=>by omega) _) hyp);clear hpo hyl hyo hyp hr4 hg4;simp only [Hd.val,Br.h] at *;obtain ⟨c0,c1,c2,c3,c4,c5,f0,f1,f2,f3,f4,f5⟩:=FIN.out.al
    go_wp2_with fail
    obtain ⟨_,_,_,_,_,_,_,d0,d1,d2,d3,d4,d5,hfin⟩:=FIN.out;refine bodyPost_ret (by simp [results,results270,go_sem,d0,d1,d2,d3,d4,d5,Result.andThen]; try rfl) rfl ?_
    exact hfin
   ·exact ⟨rfl,Or.inr ⟨ch,ho,rfl,ae (grown_below ((Below.refl _ _).alloc (Nat.le_refl _) _) _) (ae iQ.out hg4)⟩⟩
  ·rw [h7] at aG
   simp only [cond_true] at aG ⊢;have eQ:=hid aG;clear aG
   go_enter func270,ntmps270
   go_wp2_with fail
   refine HP.out.mono ?_
   rintro e w2 ⟨rfl,hr2,hg2⟩;have HG2:=hid hg2;have HR2:=hid hr2;have HK:=hid (bG S n d w2 hr2);clear hr2 hg2
   go_wp2_with fail
   refine HK.out.mono ?_
   rintro e w3 ⟨rfl,hb3⟩;have hb4:Below w3.heap.size w3 (w3.alloc (.cells #[.int .i64 7] 3)):=(Below.refl _ _).alloc (Nat.le_refl _) _;have hr3:=HR2.out.step hb3;have hr4:=hr3.step hb4;have abj:=hr3.lt;have hg3:=ae HG2.out (grown_below hb3 (some S.g));have rD:=hid (ae hg3 (grown_below hb4 (some S.g)));have hz3:w.heap.size+1≤w3.heap.size:=by have:=hg3.size; simpa using this
   have hat:jB (w3.alloc (.cells #[.int .i64 7] 3)) w3.heap.size [7]:=fun i hi=>by
    obtain rfl:i=0:=by simpa using hi
    exact cell_of_heap (heap_alloc_new w3 (.cells #[.int .i64 7] 3)) 0
   have HT:=hid (oM S n d [7] w3.heap.size 1 _ hr4 hat (by simp) (by omega) (by simp) (by simp) (by decide) (aA eQ.out));have Qs:(w3.alloc (.cells #[.int .i64 7] 3)).heap.size=w3.heap.size+1:=by simp
   clear hb3 hb4 hr3 hr4 hat hg3;simp only [List.length_cons,List.length_nil,Nat.zero_add] at HT
   go_wp2_with fail
   refine HT.out.mono ?_
   rintro e w4 (⟨p,n4,v,hpo,rfl,hv,hr4,hg4⟩ | ⟨ch,ho,rfl,hg4⟩)
   ·obtain ⟨np,nn,nc,rfl⟩:=hv.form
    have nK:=hid (ae rD.out hg4);have HV:=hid (own_base (base':=w.heap.size+1) hv (by omega));have qi:=hid hpo;have HR4:=hid hr4;have HB:=hid (az S n4 d 29 n np nn nc none 0 0 w4 hr4);clear hpo hv hr4 hg4
    go_wp2_with fail
    refine HB.out.mono ?_
    rintro e w5 ⟨rfl,hb5⟩;have HL:=bM (w0:=w) (w1:=w) 29 0 n n4 (ownsRow_below HV.out hb5) gY.1 gY.2;have FIN:=hid (bH (o:=(S.path [7] n).bind fun p n1=>Out.ok (node 29 n n1 p []) n1) (node 29 n n4 p []) 29 0 n n4 np nn nc _ none 0 0 [] (HR4.out.step hb5) (ae nK.out (grown_below hb5 _)) hgl aW (by rw [qi.out]; rfl) HL.1 HL.2 (by simp [Br.pb,pbs,node]));clear HL hb5;obtain ⟨c0,c1,c2,c3,c4,c5,f0,f1,f2,f3,f4,f5⟩:=FIN.out.al
    go_wp2_with fail
    obtain ⟨_,_,_,_,_,_,_,d0,d1,d2,d3,d4,d5,hfin⟩:=FIN.out;refine bodyPost_ret (by simp [results,results270,go_sem,d0,d1,d2,d3,d4,d5,Result.andThen]; try rfl) rfl ?_
    exact hfin
   ·exact ⟨rfl,Or.inr ⟨ch,ai ho,rfl,ae (grown_below ((Below.refl _ _).alloc (Nat.le_refl _) _) _) (ae rD.out hg4)⟩⟩
 ·rw [hp] at aG HP
  simp only [cond_true] at aG HP ⊢;clear aG
  go_enter func270,ntmps270
  go_wp2_with fail
  refine HP.out.mono ?_
  rintro e w3 ⟨rfl,hr3,hg3⟩;have iQ:=hid hg3;have HR3:=hid hr3;have HB:=hid (az S (n+1) d 38 n none 0 0 none 0 0 w3 hr3);clear hr3 hg3
  go_wp2_with fail
  refine HB.out.mono ?_
  rintro e w7 ⟨rfl,hb7⟩;have FIN:=hid (bH (o:=Out.ok (node 38 n (n+1) [] []) (n+1)) (node 38 n (n+1) [] []) 38 0 n ((n:Int)+1) none 0 0 [] none 0 0 [] (HR3.out.step hb7) (ae iQ.out (grown_below hb7 _)) hgl aW rfl (lV _ _ _ _ _) (qP _ _ _ _ _) (by simp [Br.pb,pbs,node]));clear hb7;obtain ⟨c0,c1,c2,c3,c4,c5,f0,f1,f2,f3,f4,f5⟩:=FIN.out.al
  go_wp2_with fail
  obtain ⟨_,_,_,_,_,_,_,d0,d1,d2,d3,d4,d5,hfin⟩:=FIN.out;refine bodyPost_ret (by simp [results,results270,go_sem,d0,d1,d2,d3,d4,d5,Result.andThen]; try rfl) rfl ?_
  exact hfin
set_option maxHeartbeats 2000000 in
theorem Qd (S:Src) (rec:Nt→Nat→Nat→Out Pb) (d:Nat) (hs:Said S rec d) (n:Nat) (w:World) (h:Rd w S n d) (aG:o5 S rec d n≠.dry) :
  Calls prog 279 #[.pointer (some ⟨S.g,0,none⟩)] w fun e w'=>Ends S d w (o5 S rec d n) (RB w) e w':=by
 have hgl:=h.lt;have aW:=h.row;have hb1:Below w.heap.size w (w.alloc aH):=(Below.refl w.heap.size w).alloc (Nat.le_refl _) _;have hr1:=h.step hb1;have q2:=hr1.c2;have hgz:(w.alloc aH).heap.size=w.heap.size+1:=by simp
 have ht:=take1 S n d 7 (by decide) (w.alloc aH) hr1;rw [hgz] at ht;have HT:=hid ht;unfold o5 at aG ⊢;obtain ⟨tot,htot⟩:∃ tot,tot=(S.take [7] n).bind fun m n1=>bif S.is n1 [111,102] then (rec .ty d (n1+1)).bind fun b n2=>.ok (node 9 n n2 [m] [b]) n2 else .ok (node 9 n n1 [m] []) n1:=⟨_,rfl⟩
 have eQ:Hid (tot≠.dry):=hid (by rw [htot]; exact aG);rw [← htot];have dW:=hid htot;clear hr1 hb1 h aG htot ht
 go_enter func279,ntmps279
 go_wp2_with fail
 refine HT.out.mono ?_
 rintro e w1 (⟨m,n1,v,hpo,rfl,hv,hr,hg⟩ | ⟨ch,ho,rfl,hg⟩)
 ·obtain rfl:v=.int .i64 (m:Int):=hv
  have hz1:w.heap.size+1≤w1.heap.size:=by have:=hg.size; omega
  have DD:Below w1.heap.size w1 (w1.alloc (.cells #[.int .i64 (m:Int)] 3)):=(Below.refl _ _).alloc (Nat.le_refl _) _;have Ux:=hr.step DD;have HGA:=hid (ae hg (grown_below DD (some S.g)));have UC:=hid (heap_alloc_new w1 (.cells #[.int .i64 (m:Int)] 3));have hsA:(w1.alloc (.cells #[.int .i64 (m:Int)] 3)).heap.size=w1.heap.size+1:=by simp
  have XO:=hid hsA;have iw:Hid (tot=bif S.is n1 [111,102] then (rec .ty d (n1+1)).bind fun b n2=>.ok (node 9 n n2 [m] [b]) n2 else .ok (node 9 n n1 [m] []) n1):=hid (by rw [dW.out,hpo,bind_ok]);have HP:=hid (aC S n1 d ⟨#[111,102]⟩ _ Ux (by simp))
  simp only at HP
  clear hpo hr hg DD Ux hsA HT dW
  cases hp:S.is n1 [111,102] <;> rw [hp] at HP
  ·have mF:Hid (tot=.ok (node 9 n n1 [m] []) n1):=hid (by rw [iw.out,hp]; rfl)
   clear iw hp
   go_wp2_with fail
   refine HP.out.mono ?_
   rintro e w3 ⟨rfl,hr3,hg3⟩;have Xa:=hid ((hg3.block w1.heap.size (by rw [XO.out]; omega) (fun e=>by have:=Option.some.inj e; omega)).trans UC.out);have iQ:=hid (ae HGA.out hg3);have HR3:=hid hr3;have HB:=hid (az S n1 d 9 n (some ⟨w1.heap.size,0,none⟩) 1 1 none 0 0 w3 hr3);clear hr3 hg3 HP
   go_wp2_with fail
   refine HB.out.mono ?_
   rintro e w5 ⟨rfl,hb5⟩;have hown:w5.ownsRow (w.heap.size+1) 3 1 (.slice (some ⟨w1.heap.size,0,none⟩) 1 1) [m].length ([m].map mkN):=dB ((hb5.block _ (Array.getElem?_eq_some_iff.1 Xa.out).1).trans Xa.out) hz1 rfl (by unfold maxLen; omega);have HL:=bM (w0:=w) (w1:=w) 9 0 n n1 hown gY.1 gY.2;have FIN:=hid (bH (o:=tot) (node 9 n n1 [m] []) 9 0 n n1 (some ⟨w1.heap.size,0,none⟩) 1 1 _ none 0 0 [] (HR3.out.step hb5) (ae iQ.out (grown_below hb5 _)) hgl aW mF.out HL.1 HL.2 (by simp [Br.pb,pbs,node]));clear HL hb5 hown;obtain ⟨c0,c1,c2,c3,c4,c5,f0,f1,f2,f3,f4,f5⟩:=FIN.out.al
   go_wp2_with fail
   obtain ⟨_,_,_,_,_,_,_,d0,d1,d2,d3,d4,d5,hfin⟩:=FIN.out;refine bodyPost_ret (by simp [results,results279,go_sem,d0,d1,d2,d3,d4,d5,Result.andThen]; try rfl) rfl ?_
   exact hfin
  ·have mF:Hid (tot=(rec .ty d (n1+1)).bind fun b n2=>.ok (node 9 n n2 [m] [b]) n2):=hid (by rw [iw.out,hp]; rfl)
   clear iw hp
   go_wp2_with fail
   refine HP.out.mono ?_
   rintro e w3 ⟨rfl,hr3,hg3⟩;have Xa:=hid ((hg3.block w1.heap.size (by rw [XO.out]; omega) (fun e=>by have:=Option.some.inj e; omega)).trans UC.out);have hz3:w1.heap.size < w3.heap.size:=by have:=hg3.size; have h2:=XO.out; omega
   have iQ:=hid (ae HGA.out hg3);have HY:=hid (hs.ty (n1+1) w3 hr3 (aA (by rw [← mF.out]; exact eQ.out)));clear hr3 hg3 HP
   go_wp2_with fail
   refine HY.out.mono ?_
   rintro e w4 (⟨b,n4,v,hpo,rfl,⟨y,rfl,hyl,hyo,hyp⟩,hr4,hg4⟩ | ⟨ch,ho,rfl,hg4⟩)
   ·obtain ⟨⟨yk,ym,yf,yt,ynp,ynn,ync,yns,ykp,ykn,ykc⟩,yks⟩:=y
    have Qs:w3.heap.size≤w4.heap.size:=hg4.size;have hbB:Below w4.heap.size w4 (w4.alloc (.cells #[.int .i64 yk,.int .i64 ym,.int .i64 yf,.int .i64 yt,.slice ynp ynn ync,.slice ykp ykn ykc] 96)):=(Below.refl _ _).alloc (Nat.le_refl _) _;have TV:=hid ((hbB.block w1.heap.size (by omega)).trans ((hg4.block w1.heap.size hz3 (fun e=>by have:=Option.some.inj e; omega)).trans Xa.out));have TW:=hid (heap_alloc_new w4 (.cells #[.int .i64 yk,.int .i64 ym,.int .i64 yf,.int .i64 yt,.slice ynp ynn ync,.slice ykp ykn ykc] 96));have Xb:Hid (Kids (w.heap.size+1) (.slice (some ⟨w4.heap.size,0,none⟩) 1 1) (w4.alloc (.cells #[.int .i64 yk,.int .i64 ym,.int .i64 yf,.int .i64 yt,.slice ynp ynn ync,.slice ykp ykn ykc] 96)) [(Br.mk ⟨yk,ym,yf,yt,ynp,ynn,ync,yns,ykp,ykn,ykc⟩ yks)]):=hid (vN (w:=w3) (by omega) hyl hyo 1 1);have HR4:=hid (hr4.step hbB);have rD:=hid (ae (ae iQ.out hg4) (grown_below hbB _));have DU:Hid (tot=.ok (node 9 n n4 [m] [Br.pb (Br.mk ⟨yk,ym,yf,yt,ynp,ynn,ync,yns,ykp,ykn,ykc⟩ yks)]) n4):=hid (by rw [mF.out,hpo,bind_ok,hyp]);have HB:=hid (az S n4 d 9 n (some ⟨w1.heap.size,0,none⟩) 1 1 (some ⟨w4.heap.size,0,none⟩) 1 1 _ HR4.out);have DN:w.heap.size+1≤w4.heap.size:=by omega
    clear hpo hyl hyo hyp hr4 hg4 hbB HY;simp only [Hd.val,Br.h] at *
    go_wp2_with fail
    refine HB.out.mono ?_
    rintro e w7 ⟨rfl,hb7⟩;have hown:w7.ownsRow (w.heap.size+1) 3 1 (.slice (some ⟨w1.heap.size,0,none⟩) 1 1) [m].length ([m].map mkN):=dB ((hb7.block _ (Array.getElem?_eq_some_iff.1 TV.out).1).trans TV.out) hz1 rfl (by unfold maxLen; omega);have UD:w7.ownsRow (w.heap.size+1) 96 6 (.slice (some ⟨w4.heap.size,0,none⟩) 1 1) [(Br.mk ⟨yk,ym,yf,yt,ynp,ynn,ync,yns,ykp,ykn,ykc⟩ yks)].length (bg [(Br.mk ⟨yk,ym,yf,yt,ynp,ynn,ync,yns,ykp,ykn,ykc⟩ yks)]):=dB ((hb7.block _ (Array.getElem?_eq_some_iff.1 TW.out).1).trans TW.out) DN rfl (by unfold maxLen; omega);have HL:=bM (w0:=w) (w1:=w) 9 0 n n4 hown UD (Xb.out.step hb7);have FIN:=hid (bH (o:=tot) (node 9 n n4 [m] [Br.pb (Br.mk ⟨yk,ym,yf,yt,ynp,ynn,ync,yns,ykp,ykn,ykc⟩ yks)]) 9 0 n n4 (some ⟨w1.heap.size,0,none⟩) 1 1 _ (some ⟨w4.heap.size,0,none⟩) 1 1 [(Br.mk ⟨yk,ym,yf,yt,ynp,ynn,ync,yns,ykp,ykn,ykc⟩ yks)] (HR4.out.step hb7) (ae rD.out (grown_below hb7 _)) hgl aW DU.out HL.1 HL.2 (by simp [Br.pb,pbs,node]));clear HL hb7 hown UD;obtain ⟨c0,c1,c2,c3,c4,c5,f0,f1,f2,f3,f4,f5⟩:=FIN.out.al
    go_wp2_with fail
    obtain ⟨_,_,_,_,_,_,_,d0,d1,d2,d3,d4,d5,hfin⟩:=FIN.out;refine bodyPost_ret (by simp [results,results279,go_sem,d0,d1,d2,d3,d4,d5,Result.andThen]; try rfl) rfl ?_
    exact hfin
   ·exact ⟨rfl,Or.inr ⟨ch,by rw [mF.out]; exact ai ho,rfl,ae (grown_below ((Below.refl _ _).alloc (Nat.le_refl _) _) _) (ae iQ.out hg4)⟩⟩
 ·exact ⟨rfl,Or.inr ⟨ch,by rw [dW.out]; exact ai ho,rfl,ae (grown_below ((Below.refl _ _).alloc (Nat.le_refl _) _) _) hg⟩⟩
def R1 (w0:World):Nat→Value→World→Prop:=fun m v w'=>w'.ownsRow w0.heap.size 3 1 v [m].length ([m].map mkN)
theorem WW (args:Array Value) (w:World):Sem.run prog (callFunc 279 args) w=.ok (.enter 279 args) w:=aV func279 (by kernel_rfl) (by kernel_rfl) args w
set_option maxHeartbeats 2000000 in
theorem IL (S:Src) (F:Nat) (rec:Nt→Nat→Nat→Out Pb) (d:Nat) (hs:Said S rec d) (hF:F≤1000000000)
  (hT:∀ k w',Rd w' S k d→cO S F k≠.dry→Calls prog 235 #[.pointer (some ⟨S.g,0,none⟩)] w' fun e w''=>Ends S d w' (cO S F k) (R1 w') e w'')
  (n:Nat) (w:World) (h:Rd w S n d) (aG:iC S F rec d n≠.dry) :
  Calls prog 278 #[.pointer (some ⟨S.g,0,none⟩)] w fun e w'=>Ends S d w (iC S F rec d n) (RB w) e w':=by
 have hgl:=h.lt;have aW:=h.row;have hb1:Below w.heap.size w (w.alloc aH):=(Below.refl w.heap.size w).alloc (Nat.le_refl _) _;have hr1:=h.step hb1;have q2:=hr1.c2;have hgz:(w.alloc aH).heap.size=w.heap.size+1:=by simp
 unfold iC at aG ⊢;have HT:=hid (hT n _ hr1 (aA aG));obtain ⟨tot,htot⟩:∃ tot,tot=(cO S F n).bind fun m n1=>(S.need [61] n1).bind fun _ n2=>(gK S F [124] (o5 S rec d) n2).bind fun l n3=>.ok (node 8 n n3 [m] l) n3:=⟨_,rfl⟩
 have eQ:Hid (tot≠.dry):=hid (by rw [htot]; exact aG);rw [← htot];have dW:=hid htot;clear hr1 hb1 h aG htot hT
 go_enter func278,ntmps278
 go_wp2_with fail
 refine HT.out.mono ?_
 rintro e w1 (⟨m,n1,v,hpo,rfl,hv,hr,hg⟩ | ⟨ch,ho,rfl,hg⟩)
 ·obtain ⟨np,nc,rfl⟩:=dP hv
  have hz1:w.heap.size+1≤w1.heap.size:=by have:=hg.size; omega
  have HV1:=hid (own_base (base':=w.heap.size+1) hv (by omega));have zY:=hid hg;have iw:Hid (tot=(S.need [61] n1).bind fun _ n2=>(gK S F [124] (o5 S rec d) n2).bind fun l n3=>.ok (node 8 n n3 [m] l) n3):=hid (by rw [dW.out,hpo,bind_ok]);have HN:=hid (bF S n1 d ⟨#[61]⟩ w1 hr (by simp));clear hpo hr hg hv HT dW
  go_wp2_with fail
  refine HN.out.mono ?_
  rintro e w2 (⟨u,n2,v,hno,rfl,hv,hr2,hg2⟩ | ⟨ch,ho,rfl,hg2⟩)
  ·obtain rfl:v=.tuple #[]:=hv
   have HV2:=hid (HV1.out.kept hg2 (Or.inr (fun e=>by have:=(HV1.out.lt _ e).1; omega)));have HG2:=hid (ae zY.out hg2);have hz2:w.heap.size+1≤w2.heap.size:=Nat.le_trans hz1 hg2.size;have mF:Hid (tot=(gK S F [124] (o5 S rec d) n2).bind fun l n3=>.ok (node 8 n n3 [m] l) n3):=hid (by rw [iw.out]; rw [show S.need [61] n1=.ok u n2 from hno,bind_ok]);have HW:=hid (kH 279 #[] WW S F n2 d ⟨#[124]⟩ (o5 S rec d) _ hr2 (by simp) hF (fun k w' hr _ hnd=>Qd S rec d hs k w' hr hnd) (aA (by rw [← mF.out]; exact eQ.out)));clear hno hr2 hg2 HN iw
   go_wp2_with fail
   refine HW.out.mono ?_
   rintro e w4 (⟨l,n4,v,hpo,rfl,⟨ys,hown,hK,hmap⟩,hr4,hg4⟩ | ⟨ch,ho,rfl,hg4⟩)
   ·obtain ⟨kp,kc,rfl⟩:=dP hown
    have HV4:=hid (HV2.out.kept hg4 (Or.inr (fun e=>by have:=(HV2.out.lt _ e).1; omega)));have nK:=hid (ae HG2.out hg4);have jS:=hid (own_base (base':=w.heap.size+1) hown hz2);have pI:Hid (Kids (w.heap.size+1) (.slice kp ys.length kc) w4 ys):=hid (fun y hy=>⟨(hK y hy).1,(hK y hy).2.mono (fun q hq=>⟨by have:=hq.1; omega,hq.2⟩) _⟩);have DU:Hid (tot=.ok (node 8 n n4 [m] l) n4):=hid (by rw [mF.out,hpo,bind_ok]);have mD:=hid hmap;have jP:=hid hr4;have HB:=hid (az S n4 d 8 n np [m].length nc kp ys.length kc w4 hr4);clear hpo hown hK hmap hr4 hg4 HW;obtain ⟨nl,hnl⟩:∃ nl,nl=ys.length:=⟨_,rfl⟩
    have yE:=hid hnl;rw [← hnl] at jS pI HB ⊢;clear hnl;simp only [List.length_cons,List.length_nil,Nat.zero_add] at HB ⊢
    go_wp2_with fail
    refine HB.out.mono ?_
    rintro e w7 ⟨rfl,hb7⟩;have HL:=bM (w0:=w) (w1:=w) (N:=w.heap.size+1) 8 0 n n4 (ownsRow_below HV4.out hb7) (by rw [← yE.out]; exact ownsRow_below jS.out hb7) (pI.out.step hb7);have FIN:=hid (bH (o:=tot) (node 8 n n4 [m] l) 8 0 n n4 np 1 nc _ kp nl kc ys (jP.out.step hb7) (ae nK.out (grown_below hb7 _)) hgl aW DU.out HL.1 HL.2 (by rw [← mD.out]; simp [Br.pb,eF,node]));clear HL hb7;obtain ⟨c0,c1,c2,c3,c4,c5,f0,f1,f2,f3,f4,f5⟩:=FIN.out.al
    go_wp2_with fail
    obtain ⟨_,_,_,_,_,_,_,d0,d1,d2,d3,d4,d5,hfin⟩:=FIN.out;refine bodyPost_ret (by simp [results,results278,go_sem,d0,d1,d2,d3,d4,d5,Result.andThen]; try rfl) rfl ?_
    exact hfin
   ·exact ⟨rfl,Or.inr ⟨ch,by rw [mF.out]; exact ai ho,rfl,ae (grown_below ((Below.refl _ _).alloc (Nat.le_refl _) _) _) (ae HG2.out hg4)⟩⟩
  ·exact ⟨rfl,Or.inr ⟨ch,by rw [iw.out]; exact ai ho,rfl,ae (grown_below ((Below.refl _ _).alloc (Nat.le_refl _) _) _) (ae zY.out hg2)⟩⟩
 ·exact ⟨rfl,Or.inr ⟨ch,by rw [dW.out]; exact ai ho,rfl,ae (grown_below ((Below.refl _ _).alloc (Nat.le_refl _) _) _) hg⟩⟩
set_option maxHeartbeats 2000000 in
theorem mP (S:Src) (F n d:Nat) (hF:F≤1000000000) (w:World) (h:Rd w S n d) (aG:cO S F n≠.dry) :
  Calls prog 235 #[.pointer (some ⟨S.g,0,none⟩)] w fun e w'=>Ends S d w (cO S F n) (R1 w) e w':=by
 have hgl:=h.lt;have aW:=h.row;have hbd:=h.bound;have HR:=hid h;have zT:=hid (bG S n d w h);obtain ⟨tot,htot⟩:∃ tot,tot=cO S F n:=⟨_,rfl⟩
 have eQ:Hid (tot≠.dry):=hid (by rw [htot]; exact aG);rw [← htot];unfold cO at htot;have dW:=hid htot;clear h aG htot
 cases h8:(S.kd n == 8)
 ·cases hp:S.is n [40]
  ·have iw:Hid (tot=S.take [6] n):=hid (by rw [dW.out,h8,hp]; rfl)
   go_enter func235,ntmps235
   go_wp2_with fail
   refine zT.out.mono ?_
   rintro e w2 ⟨rfl,hb2⟩;have HP:=hid (aC S n d ⟨#[40]⟩ w2 (HR.out.step hb2) (by simp))
   simp only at HP
   rw [hp] at HP;have HG2:=hid (grown_below hb2 (some S.g));clear hb2
   go_wp2_with fail
   refine HP.out.mono ?_
   rintro e w3 ⟨rfl,hr3,hg3⟩;have DV:Hid (Rd w3 S n d):=hid hr3;have G6:=hid (ae HG2.out hg3);clear hr3 hg3 HP;have ht:=take1 S (n) d 6 (by decide) w3 DV.out;have HT:=hid ht;clear ht
   go_wp2_with fail
   refine HT.out.mono ?_
   rintro e w9 (⟨m,n9,v,hpo,rfl,hv,hr,hg⟩ | ⟨ch,ho,rfl,hg⟩)
   ·obtain rfl:v=.int .i64 (m:Int):=hv
    have hb:Below w9.heap.size w9 (w9.alloc (.cells #[.int .i64 (m:Int)] 3)):=(Below.refl _ _).alloc (Nat.le_refl _) _;have hgg:=ae G6.out hg;have hown:(w9.alloc (.cells #[.int .i64 (m:Int)] 3)).ownsRow w.heap.size 3 1 (.slice (some ⟨w9.heap.size,0,none⟩) 1 1) [m].length ([m].map mkN):=dB (heap_alloc_new w9 (.cells #[.int .i64 (m:Int)] 3)) hgg.size rfl (by unfold maxLen; omega);have HE:=hid (And.intro (iw.out.trans hpo) (And.intro hown (And.intro (hr.step hb) (ae hgg (grown_below hb (some S.g))))));clear hpo hr hg hb hgg hown
    go_wp2_with fail
    go_ret
    exact Or.inl ⟨m,n9,_,HE.out.1,rfl,HE.out.2.1,HE.out.2.2.1,HE.out.2.2.2⟩
   ·exact ⟨rfl,Or.inr ⟨ch,by rw [iw.out]; exact ho,rfl,ae G6.out hg⟩⟩
  ·have UE:Hid (tot=(S.take [8] (n+1)).bind fun _ n1=>(lg S F n1).bind fun _ n2=>(S.need [41] n2).bind fun _ n3=>S.take [6] n3):=hid (by rw [dW.out,h8,hp]; rfl)
   go_enter func235,ntmps235
   go_wp2_with fail
   refine zT.out.mono ?_
   rintro e w2 ⟨rfl,hb2⟩;have HP:=hid (aC S n d ⟨#[40]⟩ w2 (HR.out.step hb2) (by simp))
   simp only at HP
   rw [hp] at HP;have HG2:=hid (grown_below hb2 (some S.g));clear hb2
   go_wp2_with fail
   refine HP.out.mono ?_
   rintro e w3 ⟨rfl,hr3,hg3⟩;have iQ:=hid (ae HG2.out hg3);have HT8:=hid (take1 S (n+1) d 8 (by decide) w3 hr3);clear hr3 hg3 HP
   go_wp2_with fail
   refine HT8.out.mono ?_
   rintro e w4 (⟨m0,n4,v,hpo,rfl,hv,hr4,hg4⟩ | ⟨ch,ho,rfl,hg⟩)
   ·obtain rfl:v=.int .i64 (m0:Int):=hv
    have XF:Hid (tot=(lg S F n4).bind fun _ n2=>(S.need [41] n2).bind fun _ n3=>S.take [6] n3):=hid (by rw [UE.out,hpo,bind_ok]);have HR4:=hid hr4;have rD:=hid (ae iQ.out hg4);clear hpo hr4 hg4 HT8 h8 hp
    go_wp2_with fail
    go_loopg [] F (fun gk wr=>∃ i:Nat,Hid (tot=(lg S gk i).bind fun _ n2=>(S.need [41] n2).bind fun _ n3=>S.take [6] n3)∧Hid (Rd wr S i d)∧w.grownBy wr (some S.g))
    case atStart=>exact ⟨n4,XF,HR4,rD.out⟩
    case round =>
     obtain ⟨i,HL,Gf,hgr⟩:=hrel;have qj:=hid hgr;clear hgr
     cases gk with
     | zero=>exact absurd HL.out (by intro e; exact eQ.out e)
     | succ gk =>
     have yz:=HL.out;simp only [lg] at yz;have rC:=hid yz;have HP:=hid (aC S i d ⟨#[44]⟩ wr Gf.out (by simp))
     simp only at HP
     clear yz HL
     cases hm:S.is i [44] <;> rw [hm] at HP
     ·have KA:Hid (tot=(S.need [41] i).bind fun _ n3=>S.take [6] n3):=hid (by rw [rC.out,hm]; rfl)
      clear hm rC
      go_wp2_with fail
      refine HP.out.mono ?_
      rintro e w5 ⟨rfl,pG,hg5⟩;have nK:=hid (ae qj.out hg5);have HN:=hid (bF S i d ⟨#[41]⟩ w5 pG (by simp));clear pG hg5 HP
      go_wp2_with fail
      refine HN.out.mono ?_
      rintro e w6 (⟨u,n6,v,hno,rfl,hv,DR,oV⟩ | ⟨ch,ho,rfl,oV⟩)
      ·obtain rfl:v=.tuple #[]:=hv
       have iw:Hid (tot=S.take [6] n6):=hid (by rw [KA.out]; rw [show S.need [41] i=.ok u n6 from hno,bind_ok]);have DV:=hid DR;have G6:=hid (ae nK.out oV);clear hno DR oV HN;have ht:=take1 S (n6) d 6 (by decide) w6 DV.out;have HT:=hid ht;clear ht
       go_wp2_with fail
       refine HT.out.mono ?_
       rintro e w9 (⟨m,n9,v,hpo,rfl,hv,hr,hg⟩ | ⟨ch,ho,rfl,hg⟩)
       ·obtain rfl:v=.int .i64 (m:Int):=hv
        have hb:Below w9.heap.size w9 (w9.alloc (.cells #[.int .i64 (m:Int)] 3)):=(Below.refl _ _).alloc (Nat.le_refl _) _;have hgg:=ae G6.out hg;have hown:(w9.alloc (.cells #[.int .i64 (m:Int)] 3)).ownsRow w.heap.size 3 1 (.slice (some ⟨w9.heap.size,0,none⟩) 1 1) [m].length ([m].map mkN):=dB (heap_alloc_new w9 (.cells #[.int .i64 (m:Int)] 3)) hgg.size rfl (by unfold maxLen; omega);have HE:=hid (And.intro (iw.out.trans hpo) (And.intro hown (And.intro (hr.step hb) (ae hgg (grown_below hb (some S.g))))));clear hpo hr hg hb hgg hown
        go_wp2_with fail
        go_ret
        exact Or.inl ⟨m,n9,_,HE.out.1,rfl,HE.out.2.1,HE.out.2.2.1,HE.out.2.2.2⟩
       ·exact ⟨rfl,Or.inr ⟨ch,by rw [iw.out]; exact ho,rfl,ae G6.out hg⟩⟩
      ·exact ⟨rfl,Or.inr ⟨ch,by rw [KA.out]; exact ai ho,rfl,ae nK.out oV⟩⟩
     ·have KA:Hid (tot=((S.take [8] (i+1)).bind fun _ n1=>lg S gk n1).bind fun _ n2=>(S.need [41] n2).bind fun _ n3=>S.take [6] n3):=hid (by rw [rC.out,hm]; rfl)
      clear hm rC
      go_wp2_with fail
      refine HP.out.mono ?_
      rintro e w5 ⟨rfl,pG,hg5⟩;have nK:=hid (ae qj.out hg5);have HT9:=hid (take1 S (i+1) d 8 (by decide) w5 pG);clear pG hg5 HP
      go_wp2_with fail
      refine HT9.out.mono ?_
      rintro e w6 (⟨m1,n6,v,hpo,rfl,hv,DR,oV⟩ | ⟨ch,ho,rfl,oV⟩)
      ·obtain rfl:v=.int .i64 (m1:Int):=hv
       have HL6:Hid (tot=(lg S gk n6).bind fun _ n2=>(S.need [41] n2).bind fun _ n3=>S.take [6] n3):=hid (by rw [KA.out,hpo]; rfl);have qm:=hid DR;have Ac:=hid (ae nK.out oV);clear hpo DR oV
       go_wp2_with fail
       go_roundg gk
       case measure=>omega
       case rel=>exact ⟨n6,HL6,qm,Ac.out⟩
      ·exact ⟨rfl,Or.inr ⟨ch,by rw [KA.out]; exact ai (ai ho),rfl,ae nK.out oV⟩⟩
   ·exact ⟨rfl,Or.inr ⟨ch,by rw [UE.out]; exact ai ho,rfl,ae iQ.out hg⟩⟩
 ·have iw:Hid (tot=S.take [6] (n+1)):=hid (by rw [dW.out,h8]; rfl)
  have hk0:S.kd n≠0:=by intro e; rw [e] at h8; cases h8
  go_enter func235,ntmps235
  go_wp2_with fail
  refine zT.out.mono ?_
  rintro e w2 ⟨rfl,hb2⟩;have hr2:=HR.out.step hb2;have hmore:=hr2.moreK hk0;have DV:=hid (hr2.bump hmore);have d2:=hr2.c2;have fz2:=hr2.free 2;have G6:=hid (ae (grown_below hb2 (some S.g)) (aN S.g 2 (.int .i64 ((n:Int)+1))));clear hr2 hb2 hk0;have ht:=take1 S (n+1) d 6 (by decide) _ DV.out;rw [show (w2.setCell ⟨S.g,2,none⟩ (.int .i64 ((n:Int)+1))).heap.size=w2.heap.size from by simp] at ht;have HT:=hid ht;clear ht
  go_wp2_with fail
  refine HT.out.mono ?_
  rintro e w9 (⟨m,n9,v,hpo,rfl,hv,hr,hg⟩ | ⟨ch,ho,rfl,hg⟩)
  ·obtain rfl:v=.int .i64 (m:Int):=hv
   have hb:Below w9.heap.size w9 (w9.alloc (.cells #[.int .i64 (m:Int)] 3)):=(Below.refl _ _).alloc (Nat.le_refl _) _;have hgg:=ae G6.out hg;have hown:(w9.alloc (.cells #[.int .i64 (m:Int)] 3)).ownsRow w.heap.size 3 1 (.slice (some ⟨w9.heap.size,0,none⟩) 1 1) [m].length ([m].map mkN):=dB (heap_alloc_new w9 (.cells #[.int .i64 (m:Int)] 3)) hgg.size rfl (by unfold maxLen; omega);have HE:=hid (And.intro (iw.out.trans hpo) (And.intro hown (And.intro (hr.step hb) (ae hgg (grown_below hb (some S.g))))));clear hpo hr hg hb hgg hown
   go_wp2_with fail
   go_ret
   exact Or.inl ⟨m,n9,_,HE.out.1,rfl,HE.out.2.1,HE.out.2.2.1,HE.out.2.2.2⟩
  ·exact ⟨rfl,Or.inr ⟨ch,by rw [iw.out]; exact ho,rfl,ae G6.out hg⟩⟩
theorem Wv (args:Array Value) (w:World):Sem.run prog (callFunc 278 args) w=.ok (.enter 278 args) w:=aV func278 (by kernel_rfl) (by kernel_rfl) args w
set_option maxHeartbeats 2000000 in
theorem wK (S:Src) (F:Nat) (rec:Nt→Nat→Nat→Out Pb) (d fr:Nat) (hF:F≤1000000000) (n:Nat) (w:World) (h:Rd w S n d)
  (hD:∀ k w',Rd w' S k d→iC S F rec d k≠.dry→Calls prog 278 #[.pointer (some ⟨S.g,0,none⟩)] w' fun e w''=>Ends S d w' (iC S F rec d k) (RB w') e w'')
  (aG:dh S F rec d fr n≠.dry) :
  Calls prog 237 #[.pointer (some ⟨S.g,0,none⟩),.int .i64 (fr:Int)] w fun e w'=>Ends S d w (dh S F rec d fr n) (RB w) e w':=by
 have hgl:=h.lt;have aW:=h.row;have hb1:Below w.heap.size w (w.alloc aH):=(Below.refl w.heap.size w).alloc (Nat.le_refl _) _;have hr1:=h.step hb1;have q2:=hr1.c2;unfold dh at aG ⊢;have HW:=hid (kH 278 #[] Wv S F n d ⟨#[97,110,100]⟩ (iC S F rec d) _ hr1 (by simp) hF (fun k w' hr _ hnd=>hD k w' hr hnd) (aA aG));obtain ⟨tot,htot⟩:∃ tot,tot=((gK S F [97,110,100] (iC S F rec d) n).bind fun l n1=>Out.ok (node 7 fr n1 [] l) n1):=⟨_,rfl⟩
 rw [← htot];have dW:=hid htot;clear hr1 hb1 h aG hD htot
 go_enter func237,ntmps237
 go_wp2_with fail
 refine HW.out.mono ?_
 rintro e w4 (⟨l,n4,v,hpo,rfl,⟨ys,hown,hK,hmap⟩,hr4,hg4⟩ | ⟨ch,ho,rfl,hg4⟩)
 ·obtain ⟨kp,kc,rfl⟩:=dP hown
  have nK:=hid hg4;have jS:=hid (own_base (base':=w.heap.size+1) hown (by simp));have pI:Hid (Kids (w.heap.size+1) (.slice kp ys.length kc) w4 ys):=hid (fun y hy=>⟨(hK y hy).1,(hK y hy).2.mono (fun q hq=>⟨by have:=hq.1; simpa using this,hq.2⟩) _⟩);have iw:Hid (tot=.ok (node 7 fr n4 [] l) n4):=hid (by rw [dW.out,hpo,bind_ok]);have mD:=hid hmap;have jP:=hid hr4;have HB:=hid (az S n4 d 7 fr none 0 0 kp ys.length kc w4 hr4);clear hpo hown hK hmap hr4 hg4;obtain ⟨nl,hnl⟩:∃ nl,nl=ys.length:=⟨_,rfl⟩
  have yE:=hid hnl;rw [← hnl] at jS pI HB ⊢;clear hnl
  go_wp2_with fail
  refine HB.out.mono ?_
  rintro e w7 ⟨rfl,hb7⟩;have HL:=bM (w0:=w) (w1:=w) (N:=w.heap.size+1) 7 0 fr n4 (fK (w:=w7)) (by rw [← yE.out]; exact ownsRow_below jS.out hb7) (pI.out.step hb7);have FIN:=hid (bH (o:=tot) (node 7 fr n4 [] l) 7 0 fr n4 none 0 0 _ kp nl kc ys (jP.out.step hb7) (ae nK.out (grown_below hb7 _)) hgl aW iw.out HL.1 HL.2 (by rw [← mD.out]; simp [Br.pb,eF,node]));clear HL hb7;obtain ⟨c0,c1,c2,c3,c4,c5,f0,f1,f2,f3,f4,f5⟩:=FIN.out.al
  go_wp2_with fail
  obtain ⟨_,_,_,_,_,_,_,d0,d1,d2,d3,d4,d5,hfin⟩:=FIN.out;refine bodyPost_ret (by simp [results,results237,go_sem,d0,d1,d2,d3,d4,d5,Result.andThen]; try rfl) rfl ?_
  exact hfin
 ·exact ⟨rfl,Or.inr ⟨ch,by rw [dW.out]; exact ai ho,rfl,ae (grown_below ((Below.refl _ _).alloc (Nat.le_refl _) _) _) hg4⟩⟩
end Go.Proofs.YtmpmfamiegpmgaaGreatDoor
