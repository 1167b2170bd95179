/-
  The reader's tuple.; The reader's plain.; The reader's atomicPat.; The reader's constructor.; One datatype that is declared, out of the contract of typeName (84).; The reader's typeName.; The reader's datatypes, out of the contract of one (109).
-/
import Derived.Test.YtmpmfamiegpmgaaGreatDoorGG
import Derived.Test.YtmpmfamiegpmgaaGreatDoorGI
namespace Go.Proofs.YtmpmfamiegpmgaaGreatDoor
open Tryz
open Go.Lib (cell_of_heap hid)
open Go.RowKit
set_option maxRecDepth 20000
set_option linter.unusedVariables false
set_option linter.unusedSimpArgs false
set_option maxHeartbeats 2000000 in
theorem JK (m:Nat) (hcf:∀ args w,Sem.run prog (callFunc m args) w=.ok (.enter m args) w) (S:Src) (F fr n d:Nat) (read:Nat→Out Pb) (w:World) (h:Rd w S n d) (hF:F≤1000000000)
  (hread:∀ k w',Rd w' S k d→read k≠.dry→Calls prog m #[.pointer (some ⟨S.g,0,none⟩)] w' (fun e w''=>Ends S d w' (read k) (RB w') e w''))
  (aJ:iy S F fr read n≠.dry) :
  Calls prog 305 #[.pointer (some ⟨S.g,0,none⟩),.int .i64 (fr:Int),.func (.func m) #[] #[]] w fun e w'=>Ends S d w (iy S F fr read n) (RB w) e w':=by
 have hgl:=h.lt;have aZ:=h.row;have hb1:Below w.heap.size w (w.alloc aK):=(Below.refl w.heap.size w).alloc (Nat.le_refl _) _;have hr1:=h.step hb1;have HP:=hid (aH S n d ⟨#[41]⟩ _ hr1 (by simp))
 simp only at HP
 unfold iy at aJ ⊢;clear hr1 hb1 h
 cases hp:S.is n [41]
 ·rw [hp] at aJ HP
  simp only [cond_false] at aJ HP ⊢;have fP:=hid aJ;clear aJ
  go_enter func305,ntmps305
  go_wp2_with fail
  refine HP.out.mono ?_
  rintro e w3 ⟨rfl,hr3,hg3⟩;have jW:=hid hg3;have HW:=hid (lG m #[] hcf S F n d ⟨#[44]⟩ read w3 hr3 (by simp) hF (fun k w' hr _ hnd=>hread k w' hr hnd) (aF fP.out));clear hr3 hg3
  go_wp2_with fail
  refine HW.out.mono ?_
  rintro e w4 (⟨l,n4,v,hpo,rfl,⟨ys,hown,hK,hmap⟩,hr4,hg4⟩ | ⟨ch,ho,rfl,hg4⟩)
  ·obtain ⟨kp,kc,rfl⟩:=eF hown
   have hz3:w.heap.size+1≤w3.heap.size:=by have:=jW.out.size; simpa using this
   have tY:=hid (ae jW.out hg4);have EF:=hid (own_base (base':=w.heap.size+1) hown hz3);have U5:Hid (Kids (w.heap.size+1) (.slice kp ys.length kc) w4 ys):=hid (fun y hy=>⟨(hK y hy).1,(hK y hy).2.mono (fun q hq=>⟨by omega,hq.2⟩) _⟩);have rU:=hid hpo;have nz:=hid hmap;have HN:=hid (bF S n4 d ⟨#[41]⟩ w4 hr4 (by simp));clear hpo hown hK hmap hr4 hg4
   go_wp2_with fail
   refine HN.out.mono ?_
   rintro e w5 (⟨u,n5,v,KJ,rfl,hv,rV,hg5⟩ | ⟨ch,ho,rfl,hg5⟩)
   ·obtain rfl:v=.tuple #[]:=hv
    have kW:=hid (EF.out.kept hg5 (Or.inr (fun e=>by have:=(EF.out.lt _ e).1; omega)));have qN:=hid (U5.out.grow hg5 (by omega));have oJ:=hid (ae tY.out hg5);have ni:=hid rV;have KL:=hid KJ;clear KJ rV hg5
    by_cases h1:ys.length=1
    ·obtain ⟨y,rfl⟩:=List.length_eq_one_iff.1 h1
     obtain ⟨yh,yks⟩:=y;obtain ⟨yk,ym,yf,yt,ynp,ynn,ync,yns,ykp,ykn,ykc⟩:=yh;obtain ⟨gk,ck,hvk,_,hgk,_,_⟩:=jo kW.out (by simp)
     injection hvk with hk1 hk2 hk3
     subst hk1 hk3;have cell:=fun j u hu=>eH kW.out j u hu
     have e0:=cell 0 _ rfl;have e1:=cell 1 _ rfl;have e2:=cell 2 _ rfl;have e3:=cell 3 _ rfl;have e4:=cell 4 _ rfl;have e5:=cell 5 _ rfl;simp only [Br.h] at e0 e1 e2 e3 e4 e5;obtain ⟨hyl,hyo⟩:=qN.out _ (List.mem_singleton.2 rfl);have FIN:=hid (bJ (o:=((gI S F [44] read n).bind fun l n1=>(S.need [41] n1).bind fun _ n2=>Out.ok (fJ l 30 fr n2 []) n2)) _ yk ym yf yt ynp ynn ync yns ykp ykn ykc yks ni.out oJ.out hgl aZ (by rw [rU.out,bind_ok,KL.out,bind_ok,← nz.out]; rfl) hyl (hyo.mono (fun q hq=>hq.1) _) rfl);clear cell hyl hyo h1;obtain ⟨c0,c1,c2,c3,c4,c5,f0,f1,f2,f3,f4,f5⟩:=FIN.out.al
     go_wp2_with fail
     obtain ⟨_,_,_,_,_,_,_,d0,d1,d2,d3,d4,d5,hfin⟩:=FIN.out;refine bodyPost_ret (by simp [results,results305,go_sem,d0,d1,d2,d3,d4,d5,Result.andThen]; try rfl) rfl ?_
     exact hfin
    ·have hln:∀ b,l≠[b]:=fun b e=>h1 (by have:=congrArg List.length (nz.out.trans e); simpa using this)
     have fE:Hid (((gI S F [44] read n).bind fun l n1=>(S.need [41] n1).bind fun _ n2=>Out.ok (fJ l 30 fr n2 []) n2)=.ok (node 30 fr n5 [] l) n5):=hid (by rw [rU.out,bind_ok,KL.out,bind_ok,sH hln]);have hgk:((ys.length:Int) == 1)=false:=by rw [beq_eq_false_iff_ne]; omega
     have h1i:¬ ((ys.length:Nat):Int)=1:=by omega
     have HB:=hid (aC S n5 d 30 fr none 0 0 kp ys.length kc w5 ni.out);clear hln;obtain ⟨nl,hnl⟩:∃ nl,nl=ys.length:=⟨_,rfl⟩
     have yz:=hid hnl;rw [← hnl] at kW qN h1 h1i hgk HB ⊢;clear hnl
     go_wp2_with fail
     refine HB.out.mono ?_
     rintro e w7 ⟨rfl,hb7⟩;have HL:=bZ (w0:=w) (w1:=w) (N:=w.heap.size+1) 30 0 fr n5 (gU (w:=w7)) (by rw [← yz.out]; exact ownsRow_below kW.out hb7) (qN.out.step hb7);have FIN:=hid (bJ (o:=((gI S F [44] read n).bind fun l n1=>(S.need [41] n1).bind fun _ n2=>Out.ok (fJ l 30 fr n2 []) n2)) (node 30 fr n5 [] l) 30 0 fr n5 none 0 0 _ kp nl kc ys (ni.out.step hb7) (ae oJ.out (grown_below hb7 _)) hgl aZ fE.out HL.1 HL.2 (by rw [← nz.out]; simp [Br.pb,eQ,node]));clear HL hb7;obtain ⟨c0,c1,c2,c3,c4,c5,f0,f1,f2,f3,f4,f5⟩:=FIN.out.al
     go_wp2_with fail
     obtain ⟨_,_,_,_,_,_,_,d0,d1,d2,d3,d4,d5,hfin⟩:=FIN.out;refine bodyPost_ret (by simp [results,results305,go_sem,d0,d1,d2,d3,d4,d5,Result.andThen]; try rfl) rfl ?_
     exact hfin
   ·exact ⟨rfl,Or.inr ⟨ch,by rw [rU.out,bind_ok]; exact aj ho,rfl,ae (grown_below ((Below.refl _ _).alloc (Nat.le_refl _) _) _) (ae tY.out hg5)⟩⟩
  ·exact ⟨rfl,Or.inr ⟨ch,aj ho,rfl,ae (grown_below ((Below.refl _ _).alloc (Nat.le_refl _) _) _) (ae jW.out hg4)⟩⟩
 ·rw [hp] at aJ HP
  simp only [cond_true] at aJ HP ⊢;clear aJ
  go_enter func305,ntmps305
  go_wp2_with fail
  refine HP.out.mono ?_
  rintro e w3 ⟨rfl,hr3,hg3⟩;have jW:=hid hg3;have HR3:=hid hr3;have HB:=hid (aC S (n+1) d 30 fr none 0 0 none 0 0 w3 hr3);clear hr3 hg3
  go_wp2_with fail
  refine HB.out.mono ?_
  rintro e w7 ⟨rfl,hb7⟩;have FIN:=hid (bJ (o:=Out.ok (node 30 fr (n+1) [] []) (n+1)) (node 30 fr (n+1) [] []) 30 0 fr ((n:Int)+1) none 0 0 [] none 0 0 [] (HR3.out.step hb7) (ae jW.out (grown_below hb7 _)) hgl aZ rfl (ng _ _ _ _ _) (sU _ _ _ _ _) (by simp [Br.pb,pbs,node]));clear hb7;obtain ⟨c0,c1,c2,c3,c4,c5,f0,f1,f2,f3,f4,f5⟩:=FIN.out.al
  go_wp2_with fail
  obtain ⟨_,_,_,_,_,_,_,d0,d1,d2,d3,d4,d5,hfin⟩:=FIN.out;refine bodyPost_ret (by simp [results,results305,go_sem,d0,d1,d2,d3,d4,d5,Result.andThen]; try rfl) rfl ?_
  exact hfin
set_option maxHeartbeats 2000000 in
theorem xw (m:Nat) (hcf:∀ args w,Sem.run prog (callFunc m args) w=.ok (.enter m args) w) (S:Src) (F n d:Nat) (named:Int) (read:Nat→Out Pb) (w:World) (h:Rd w S n d) (hF:F≤1000000000)
  (hread:∀ k w',Rd w' S k d→read k≠.dry→Calls prog m #[.pointer (some ⟨S.g,0,none⟩)] w' (fun e w''=>Ends S d w' (read k) (RB w') e w''))
  (aJ:plainO S F named read n≠.dry) :
  Calls prog 297 #[.pointer (some ⟨S.g,0,none⟩),.int .i64 named,.func (.func m) #[] #[]] w fun e w'=>Ends S d w (plainO S F named read n) (RB w) e w':=by
 have hgl:=h.lt;have aZ:=h.row;have hbd:=h.bound;have hb1:Below w.heap.size w (w.alloc aK):=(Below.refl w.heap.size w).alloc (Nat.le_refl _) _;have hr1:=h.step hb1;have HR1:=hid hr1;have q2:=hr1.c2;have AP:=hid (bH S n d _ hr1);unfold plainO at aJ ⊢;clear hr1 hb1 h
 cases h4:(S.kd n == 4)
 ·rw [h4] at aJ
  simp only [cond_false] at aJ ⊢
  cases h5:(S.kd n == 5)
  ·rw [h5] at aJ
   simp only [cond_false] at aJ ⊢
   cases hp:S.is n [40]
   ·rw [hp] at aJ
    simp only [cond_false] at aJ ⊢
    go_enter func297,ntmps297
    go_wp2_with fail
    refine AP.out.mono ?_
    rintro e w1 ⟨rfl,hb1⟩;have HB1:=hid hb1;have KG:=hid (bH S n d w1 (HR1.out.step hb1));clear hb1
    go_wp2_with fail
    refine KG.out.mono ?_
    rintro e w2 ⟨rfl,hb2⟩;have hb2:=HB1.out.trans (hb2.mono HB1.out.size);have hr2:=HR1.out.step hb2;have HG2:=hid (grown_below hb2 (some S.g));have HP:=hid (aH S n d ⟨#[40]⟩ w2 hr2 (by simp))
    simp only at HP
    rw [hp] at HP;clear hr2 hb2
    go_wp2_with fail
    refine HP.out.mono ?_
    rintro e w3 ⟨rfl,hr3,hg3⟩;have jW:=hid (ae HG2.out hg3);have HT:=hid (qR S n d w3 hr3);clear hr3 hg3
    go_wp2_with fail
    refine HT.out.mono ?_
    rintro e w4 (⟨p,n4,v,hpo,rfl,hv,hr4,hg4⟩ | ⟨ch,ho,rfl,hg4⟩)
    ·obtain rfl:v=.int .i64 (p:Int):=hv
     have hb5:Below w4.heap.size w4 (w4.alloc (.cells #[.int .i64 (p:Int)] 3)):=(Below.refl _ _).alloc (Nat.le_refl _) _;have tY:=hid (ae (ae jW.out hg4) (grown_below hb5 _));have hk4:w.heap.size+1≤w4.heap.size:=by have h1:=jW.out.size; have h2:=hg4.size; have h3:(w.alloc aK).heap.size=w.heap.size+1:=(by simp); omega
     have XR:=hid (heap_alloc_new w4 (.cells #[.int .i64 (p:Int)] 3));have rU:=hid hpo;have HR4:=hid (hr4.step hb5);have HB:=hid (aC S n4 d named n (some ⟨w4.heap.size,0,none⟩) 1 1 none 0 0 _ HR4.out);clear hpo hr4 hg4 hb5
     go_wp2_with fail
     refine HB.out.mono ?_
     rintro e w5 ⟨rfl,hb5⟩;have hown:w5.ownsRow (w.heap.size+1) 3 1 (.slice (some ⟨w4.heap.size,0,none⟩) 1 1) [p].length ([p].map mkN):=ed ((hb5.block _ (Array.getElem?_eq_some_iff.1 XR.out).1).trans XR.out) hk4 rfl (by unfold maxLen; omega);have HL:=bZ (w0:=w) (w1:=w) named 0 n n4 hown iU.1 iU.2;have FIN:=hid (bJ (o:=(S.value n).bind fun m n1=>Out.ok (node named n n1 [m] []) n1) (node named n n4 [p] []) named 0 n n4 (some ⟨w4.heap.size,0,none⟩) 1 1 _ none 0 0 [] (HR4.out.step hb5) (ae tY.out (grown_below hb5 _)) hgl aZ (by rw [rU.out]; rfl) HL.1 HL.2 (by simp [Br.pb,pbs,node]));clear HL hb5 hown;obtain ⟨c0,c1,c2,c3,c4,c5,f0,f1,f2,f3,f4,f5⟩:=FIN.out.al
     go_wp2_with fail
     obtain ⟨_,_,_,_,_,_,_,d0,d1,d2,d3,d4,d5,hfin⟩:=FIN.out;refine bodyPost_ret (by simp [results,results297,go_sem,d0,d1,d2,d3,d4,d5,Result.andThen]; try rfl) rfl ?_
     exact hfin
    ·exact ⟨rfl,Or.inr ⟨ch,aj ho,rfl,ae (grown_below ((Below.refl _ _).alloc (Nat.le_refl _) _) _) (ae jW.out hg4)⟩⟩
   ·rw [hp] at aJ
    simp only [cond_true] at aJ ⊢;have fP:=hid aJ;clear aJ
    go_enter func297,ntmps297
    go_wp2_with fail
    refine AP.out.mono ?_
    rintro e w1 ⟨rfl,hb1⟩;have HB1:=hid hb1;have KG:=hid (bH S n d w1 (HR1.out.step hb1));clear hb1
    go_wp2_with fail
    refine KG.out.mono ?_
    rintro e w2 ⟨rfl,hb2⟩;have hb2:=HB1.out.trans (hb2.mono HB1.out.size);have hr2:=HR1.out.step hb2;have HG2:=hid (grown_below hb2 (some S.g));have HP:=hid (aH S n d ⟨#[40]⟩ w2 hr2 (by simp))
    simp only at HP
    rw [hp] at HP;clear hr2 hb2
    go_wp2_with fail
    refine HP.out.mono ?_
    rintro e w3 ⟨rfl,hr3,hg3⟩;have jW:=hid (ae HG2.out hg3);have HT:=hid (JK m hcf S F n (n+1) d read w3 hr3 hF hread fP.out);have hz3:w.heap.size+1≤w3.heap.size:=by have:=jW.out.size; simpa using this
    clear hr3 hg3
    go_wp2_with fail
    refine HT.out.mono ?_
    rintro e w4 (⟨b,n4,v,hpo,rfl,⟨y,rfl,hyl,hyo,hyp⟩,hr4,hg4⟩ | ⟨ch,ho,rfl,hg4⟩)
    ·obtain ⟨⟨yk,ym,yf,yt,ynp,ynn,ync,yns,ykp,ykn,ykc⟩,yks⟩:=y
     have FIN:=hid (bJ (o:=iy S F n read (n+1)) b yk ym yf yt ynp ynn ync yns ykp ykn ykc yks hr4 (ae jW.out hg4) hgl aZ hpo hyl (hyo.mono (fun q hq=>by omega) _) hyp);clear hpo hyl hyo hyp hr4 hg4;simp only [Hd.val,Br.h] at *;obtain ⟨c0,c1,c2,c3,c4,c5,f0,f1,f2,f3,f4,f5⟩:=FIN.out.al
     go_wp2_with fail
     obtain ⟨_,_,_,_,_,_,_,d0,d1,d2,d3,d4,d5,hfin⟩:=FIN.out;refine bodyPost_ret (by simp [results,results297,go_sem,d0,d1,d2,d3,d4,d5,Result.andThen]; try rfl) rfl ?_
     exact hfin
    ·exact ⟨rfl,Or.inr ⟨ch,ho,rfl,ae (grown_below ((Below.refl _ _).alloc (Nat.le_refl _) _) _) (ae jW.out hg4)⟩⟩
  ·rw [h5] at aJ
   simp only [cond_true] at aJ ⊢;have hk0:S.kd n≠0:=by intro e; rw [e] at h5; cases h5
   go_enter func297,ntmps297
   go_wp2_with fail
   refine AP.out.mono ?_
   rintro e w1 ⟨rfl,hb1⟩;have HB1:=hid hb1;have KG:=hid (bH S n d w1 (HR1.out.step hb1));clear hb1
   go_wp2_with fail
   refine KG.out.mono ?_
   rintro e w2 ⟨rfl,hb2⟩;have hb2:=HB1.out.trans (hb2.mono HB1.out.size);have hr2:=HR1.out.step hb2;have hmore:=hr2.moreK hk0;have Gw:=hid (hr2.bump hmore);have d2:=hr2.c2;have fz2:=hr2.free 2;have HG2:=hid (ae (grown_below hb2 (some S.g)) (aS S.g 2 (.int .i64 ((n:Int)+1))));have HB:=hid (aC S (n+1) d 27 n none 0 0 none 0 0 _ Gw.out);clear hr2 hb2 hk0
   go_wp2_with fail
   refine HB.out.mono ?_
   rintro e w5 ⟨rfl,hb5⟩;have FIN:=hid (bJ (o:=Out.ok (node 27 n (n+1) [] []) (n+1)) (node 27 n (n+1) [] []) 27 0 n ((n:Int)+1) none 0 0 [] none 0 0 [] (Gw.out.step hb5) (ae HG2.out (grown_below hb5 _)) hgl aZ rfl (ng _ _ _ _ _) (sU _ _ _ _ _) (by simp [Br.pb,pbs,node]));clear hb5 Gw d2 fz2;obtain ⟨c0,c1,c2,c3,c4,c5,f0,f1,f2,f3,f4,f5⟩:=FIN.out.al
   go_wp2_with fail
   obtain ⟨_,_,_,_,_,_,_,d0,d1,d2,d3,d4,d5,hfin⟩:=FIN.out;refine bodyPost_ret (by simp [results,results297,go_sem,d0,d1,d2,d3,d4,d5,Result.andThen]; try rfl) rfl ?_
   exact hfin
 ·rw [h4] at aJ
  simp only [cond_true] at aJ ⊢;have hk0:S.kd n≠0:=by intro e; rw [e] at h4; cases h4
  go_enter func297,ntmps297
  go_wp2_with fail
  refine AP.out.mono ?_
  rintro e w2 ⟨rfl,hb2⟩;have hr2:=HR1.out.step hb2;have hmore:=hr2.moreK hk0;have Gw:=hid (hr2.bump hmore);have d2:=hr2.c2;have fz2:=hr2.free 2;have HG2:=hid (ae (grown_below hb2 (some S.g)) (aS S.g 2 (.int .i64 ((n:Int)+1))));have HB:=hid (aC S (n+1) d 26 n none 0 0 none 0 0 _ Gw.out);clear hr2 hb2 hk0
  go_wp2_with fail
  refine HB.out.mono ?_
  rintro e w5 ⟨rfl,hb5⟩;have FIN:=hid (bJ (o:=Out.ok (node 26 n (n+1) [] []) (n+1)) (node 26 n (n+1) [] []) 26 0 n ((n:Int)+1) none 0 0 [] none 0 0 [] (Gw.out.step hb5) (ae HG2.out (grown_below hb5 _)) hgl aZ rfl (ng _ _ _ _ _) (sU _ _ _ _ _) (by simp [Br.pb,pbs,node]));clear hb5 Gw d2 fz2;obtain ⟨c0,c1,c2,c3,c4,c5,f0,f1,f2,f3,f4,f5⟩:=FIN.out.al
  go_wp2_with fail
  obtain ⟨_,_,_,_,_,_,_,d0,d1,d2,d3,d4,d5,hfin⟩:=FIN.out;refine bodyPost_ret (by simp [results,results297,go_sem,d0,d1,d2,d3,d4,d5,Result.andThen]; try rfl) rfl ?_
  exact hfin
theorem aaM (args:Array Value) (w:World):Sem.run prog (callFunc 230 args) w=.ok (.enter 230 args) w:=bI func230 (by kernel_rfl) (by kernel_rfl) args w
set_option maxHeartbeats 2000000 in
theorem ja (S:Src) (F:Nat) (rec:Nt→Nat→Nat→Out Pb) (d:Nat) (hs:Said S rec d) (hF:F≤1000000000) (n:Nat) (w:World) (h:Rd w S n d) (aJ:bQ S F rec d n≠.dry) :
  Calls prog 270 #[.pointer (some ⟨S.g,0,none⟩)] w fun e w'=>Ends S d w (bQ S F rec d n) (RB w) e w':=by
 have hgl:=h.lt;have aZ:=h.row;have hbd:=h.bound;have hb1:Below w.heap.size w (w.alloc aK):=(Below.refl w.heap.size w).alloc (Nat.le_refl _) _;have hr1:=h.step hb1;have q2:=hr1.c2;have HP:=hid (aH S n d ⟨#[95]⟩ _ hr1 (by simp))
 simp only at HP
 unfold bQ at aJ ⊢;clear hr1 hb1 h
 cases hp:S.is n [95]
 ·rw [hp] at aJ HP
  simp only [cond_false] at aJ HP ⊢
  cases h7:(S.kd n == 7)
  ·rw [h7] at aJ
   simp only [cond_false] at aJ ⊢;have fP:=hid aJ;clear aJ
   go_enter func270,ntmps270
   go_wp2_with fail
   refine HP.out.mono ?_
   rintro e w2 ⟨rfl,hr2,hg2⟩;have HG2:=hid hg2;have HR2:=hid hr2;have HK:=hid (bH S n d w2 hr2);clear hr2 hg2
   go_wp2_with fail
   refine HK.out.mono ?_
   rintro e w3 ⟨rfl,hb3⟩;have jW:=hid (ae HG2.out (grown_below hb3 _));have HT:=hid (xw 230 aaM S F n d 39 (rec .pat d) w3 (HR2.out.step hb3) hF (fun k w' hr hnd=>hs.pat k w' hr hnd) fP.out);have hz3:w.heap.size+1≤w3.heap.size:=by have:=jW.out.size; simpa using this
   clear hb3
   go_wp2_with fail
   refine HT.out.mono ?_
   rintro e w4 (⟨b,n4,v,hpo,rfl,⟨y,rfl,hyl,hyo,hyp⟩,hr4,hg4⟩ | ⟨ch,ho,rfl,hg4⟩)
   ·obtain ⟨⟨yk,ym,yf,yt,ynp,ynn,ync,yns,ykp,ykn,ykc⟩,yks⟩:=y
    have FIN:=hid (bJ (o:=plainO S F 39 (rec .pat d) n) b yk ym yf yt ynp ynn ync yns ykp ykn ykc yks hr4 (ae jW.out hg4) hgl aZ hpo hyl (hyo.mono (fun q hq=>by omega) _) hyp);clear hpo hyl hyo hyp hr4 hg4;simp only [Hd.val,Br.h] at *;obtain ⟨c0,c1,c2,c3,c4,c5,f0,f1,f2,f3,f4,f5⟩:=FIN.out.al
    go_wp2_with fail
    obtain ⟨_,_,_,_,_,_,_,d0,d1,d2,d3,d4,d5,hfin⟩:=FIN.out;refine bodyPost_ret (by simp [results,results270,go_sem,d0,d1,d2,d3,d4,d5,Result.andThen]; try rfl) rfl ?_
    exact hfin
   ·exact ⟨rfl,Or.inr ⟨ch,ho,rfl,ae (grown_below ((Below.refl _ _).alloc (Nat.le_refl _) _) _) (ae jW.out hg4)⟩⟩
  ·rw [h7] at aJ
   simp only [cond_true] at aJ ⊢;have fP:=hid aJ;clear aJ
   go_enter func270,ntmps270
   go_wp2_with fail
   refine HP.out.mono ?_
   rintro e w2 ⟨rfl,hr2,hg2⟩;have HG2:=hid hg2;have HR2:=hid hr2;have HK:=hid (bH S n d w2 hr2);clear hr2 hg2
   go_wp2_with fail
   refine HK.out.mono ?_
   rintro e w3 ⟨rfl,hb3⟩;have hb4:Below w3.heap.size w3 (w3.alloc (.cells #[.int .i64 7] 3)):=(Below.refl _ _).alloc (Nat.le_refl _) _;have hr3:=HR2.out.step hb3;have hr4:=hr3.step hb4;have acE:=hr3.lt;have hg3:=ae HG2.out (grown_below hb3 (some S.g));have tY:=hid (ae hg3 (grown_below hb4 (some S.g)));have hz3:w.heap.size+1≤w3.heap.size:=by have:=hg3.size; simpa using this
   have hat:kD (w3.alloc (.cells #[.int .i64 7] 3)) w3.heap.size [7]:=fun i hi=>by
    obtain rfl:i=0:=by simpa using hi
    exact cell_of_heap (heap_alloc_new w3 (.cells #[.int .i64 7] 3)) 0
   have HT:=hid (qg S n d [7] w3.heap.size 1 _ hr4 hat (by simp) (by omega) (by simp) (by simp) (by decide) (aF fP.out));have O8:(w3.alloc (.cells #[.int .i64 7] 3)).heap.size=w3.heap.size+1:=by simp
   clear hb3 hb4 hr3 hr4 hat hg3;simp only [List.length_cons,List.length_nil,Nat.zero_add] at HT
   go_wp2_with fail
   refine HT.out.mono ?_
   rintro e w4 (⟨p,n4,v,hpo,rfl,hv,hr4,hg4⟩ | ⟨ch,ho,rfl,hg4⟩)
   ·obtain ⟨np,nn,nc,rfl⟩:=hv.form
    have oJ:=hid (ae tY.out hg4);have HV:=hid (own_base (base':=w.heap.size+1) hv (by omega));have rU:=hid hpo;have HR4:=hid hr4;have HB:=hid (aC S n4 d 29 n np nn nc none 0 0 w4 hr4);clear hpo hv hr4 hg4
    go_wp2_with fail
    refine HB.out.mono ?_
    rintro e w5 ⟨rfl,hb5⟩;have HL:=bZ (w0:=w) (w1:=w) 29 0 n n4 (ownsRow_below HV.out hb5) iU.1 iU.2;have FIN:=hid (bJ (o:=(S.path [7] n).bind fun p n1=>Out.ok (node 29 n n1 p []) n1) (node 29 n n4 p []) 29 0 n n4 np nn nc _ none 0 0 [] (HR4.out.step hb5) (ae oJ.out (grown_below hb5 _)) hgl aZ (by rw [rU.out]; rfl) HL.1 HL.2 (by simp [Br.pb,pbs,node]));clear HL hb5;obtain ⟨c0,c1,c2,c3,c4,c5,f0,f1,f2,f3,f4,f5⟩:=FIN.out.al
    go_wp2_with fail
    obtain ⟨_,_,_,_,_,_,_,d0,d1,d2,d3,d4,d5,hfin⟩:=FIN.out;refine bodyPost_ret (by simp [results,results270,go_sem,d0,d1,d2,d3,d4,d5,Result.andThen]; try rfl) rfl ?_
    exact hfin
   ·exact ⟨rfl,Or.inr ⟨ch,aj ho,rfl,ae (grown_below ((Below.refl _ _).alloc (Nat.le_refl _) _) _) (ae tY.out hg4)⟩⟩
 ·rw [hp] at aJ HP
  simp only [cond_true] at aJ HP ⊢;clear aJ
  go_enter func270,ntmps270
  go_wp2_with fail
  refine HP.out.mono ?_
  rintro e w3 ⟨rfl,hr3,hg3⟩;have jW:=hid hg3;have HR3:=hid hr3;have HB:=hid (aC S (n+1) d 38 n none 0 0 none 0 0 w3 hr3);clear hr3 hg3
  go_wp2_with fail
  refine HB.out.mono ?_
  rintro e w7 ⟨rfl,hb7⟩;have FIN:=hid (bJ (o:=Out.ok (node 38 n (n+1) [] []) (n+1)) (node 38 n (n+1) [] []) 38 0 n ((n:Int)+1) none 0 0 [] none 0 0 [] (HR3.out.step hb7) (ae jW.out (grown_below hb7 _)) hgl aZ rfl (ng _ _ _ _ _) (sU _ _ _ _ _) (by simp [Br.pb,pbs,node]));clear hb7;obtain ⟨c0,c1,c2,c3,c4,c5,f0,f1,f2,f3,f4,f5⟩:=FIN.out.al
  go_wp2_with fail
  obtain ⟨_,_,_,_,_,_,_,d0,d1,d2,d3,d4,d5,hfin⟩:=FIN.out;refine bodyPost_ret (by simp [results,results270,go_sem,d0,d1,d2,d3,d4,d5,Result.andThen]; try rfl) rfl ?_
  exact hfin
set_option maxHeartbeats 2000000 in
theorem Qe (S:Src) (rec:Nt→Nat→Nat→Out Pb) (d:Nat) (hs:Said S rec d) (n:Nat) (w:World) (h:Rd w S n d) (aJ:lW S rec d n≠.dry) :
  Calls prog 279 #[.pointer (some ⟨S.g,0,none⟩)] w fun e w'=>Ends S d w (lW S rec d n) (RB w) e w':=by
 have hgl:=h.lt;have aZ:=h.row;have hb1:Below w.heap.size w (w.alloc aK):=(Below.refl w.heap.size w).alloc (Nat.le_refl _) _;have hr1:=h.step hb1;have q2:=hr1.c2;have hgz:(w.alloc aK).heap.size=w.heap.size+1:=by simp
 have ht:=take1 S n d 7 (by decide) (w.alloc aK) hr1;rw [hgz] at ht;have HT:=hid ht;unfold lW at aJ ⊢;obtain ⟨tot,htot⟩:∃ tot,tot=(S.take [7] n).bind fun m n1=>bif S.is n1 [111,102] then (rec .ty d (n1+1)).bind fun b n2=>.ok (node 9 n n2 [m] [b]) n2 else .ok (node 9 n n1 [m] []) n1:=⟨_,rfl⟩
 have fP:Hid (tot≠.dry):=hid (by rw [htot]; exact aJ);rw [← htot];have fE:=hid htot;clear hr1 hb1 h aJ htot ht
 go_enter func279,ntmps279
 go_wp2_with fail
 refine HT.out.mono ?_
 rintro e w1 (⟨m,n1,v,hpo,rfl,hv,hr,hg⟩ | ⟨ch,ho,rfl,hg⟩)
 ·obtain rfl:v=.int .i64 (m:Int):=hv
  have hz1:w.heap.size+1≤w1.heap.size:=by have:=hg.size; omega
  have Ez:Below w1.heap.size w1 (w1.alloc (.cells #[.int .i64 (m:Int)] 3)):=(Below.refl _ _).alloc (Nat.le_refl _) _;have Vx:=hr.step Ez;have HGA:=hid (ae hg (grown_below Ez (some S.g)));have VC:=hid (heap_alloc_new w1 (.cells #[.int .i64 (m:Int)] 3));have hsA:(w1.alloc (.cells #[.int .i64 (m:Int)] 3)).heap.size=w1.heap.size+1:=by simp
  have YR:=hid hsA;have iW:Hid (tot=bif S.is n1 [111,102] then (rec .ty d (n1+1)).bind fun b n2=>.ok (node 9 n n2 [m] [b]) n2 else .ok (node 9 n n1 [m] []) n1):=hid (by rw [fE.out,hpo,bind_ok]);have HP:=hid (aH S n1 d ⟨#[111,102]⟩ _ Vx (by simp))
  simp only at HP
  clear hpo hr hg Ez Vx hsA HT fE
  cases hp:S.is n1 [111,102] <;> rw [hp] at HP
  ·have nC:Hid (tot=.ok (node 9 n n1 [m] []) n1):=hid (by rw [iW.out,hp]; rfl)
   clear iW hp
   go_wp2_with fail
   refine HP.out.mono ?_
   rintro e w3 ⟨rfl,hr3,hg3⟩;have Tn:=hid ((hg3.block w1.heap.size (by rw [YR.out]; omega) (fun e=>by have:=Option.some.inj e; omega)).trans VC.out);have jW:=hid (ae HGA.out hg3);have HR3:=hid hr3;have HB:=hid (aC S n1 d 9 n (some ⟨w1.heap.size,0,none⟩) 1 1 none 0 0 w3 hr3);clear hr3 hg3 HP
   go_wp2_with fail
   refine HB.out.mono ?_
   rintro e w5 ⟨rfl,hb5⟩;have hown:w5.ownsRow (w.heap.size+1) 3 1 (.slice (some ⟨w1.heap.size,0,none⟩) 1 1) [m].length ([m].map mkN):=ed ((hb5.block _ (Array.getElem?_eq_some_iff.1 Tn.out).1).trans Tn.out) hz1 rfl (by unfold maxLen; omega);have HL:=bZ (w0:=w) (w1:=w) 9 0 n n1 hown iU.1 iU.2;have FIN:=hid (bJ (o:=tot) (node 9 n n1 [m] []) 9 0 n n1 (some ⟨w1.heap.size,0,none⟩) 1 1 _ none 0 0 [] (HR3.out.step hb5) (ae jW.out (grown_below hb5 _)) hgl aZ nC.out HL.1 HL.2 (by simp [Br.pb,pbs,node]));clear HL hb5 hown;obtain ⟨c0,c1,c2,c3,c4,c5,f0,f1,f2,f3,f4,f5⟩:=FIN.out.al
   go_wp2_with fail
   obtain ⟨_,_,_,_,_,_,_,d0,d1,d2,d3,d4,d5,hfin⟩:=FIN.out;refine bodyPost_ret (by simp [results,results279,go_sem,d0,d1,d2,d3,d4,d5,Result.andThen]; try rfl) rfl ?_
   exact hfin
  ·have nC:Hid (tot=(rec .ty d (n1+1)).bind fun b n2=>.ok (node 9 n n2 [m] [b]) n2):=hid (by rw [iW.out,hp]; rfl)
   clear iW hp
   go_wp2_with fail
   refine HP.out.mono ?_
   rintro e w3 ⟨rfl,hr3,hg3⟩;have Tn:=hid ((hg3.block w1.heap.size (by rw [YR.out]; omega) (fun e=>by have:=Option.some.inj e; omega)).trans VC.out);have hz3:w1.heap.size < w3.heap.size:=by have:=hg3.size; have h2:=YR.out; omega
   have jW:=hid (ae HGA.out hg3);have HY:=hid (hs.ty (n1+1) w3 hr3 (aF (by rw [← nC.out]; exact fP.out)));clear hr3 hg3 HP
   go_wp2_with fail
   refine HY.out.mono ?_
   rintro e w4 (⟨b,n4,v,hpo,rfl,⟨y,rfl,hyl,hyo,hyp⟩,hr4,hg4⟩ | ⟨ch,ho,rfl,hg4⟩)
   ·obtain ⟨⟨yk,ym,yf,yt,ynp,ynn,ync,yns,ykp,ykn,ykc⟩,yks⟩:=y
    have O8:w3.heap.size≤w4.heap.size:=hg4.size;have hbB:Below w4.heap.size w4 (w4.alloc (.cells #[.int .i64 yk,.int .i64 ym,.int .i64 yf,.int .i64 yt,.slice ynp ynn ync,.slice ykp ykn ykc] 96)):=(Below.refl _ _).alloc (Nat.le_refl _) _;have KH:=hid ((hbB.block w1.heap.size (by omega)).trans ((hg4.block w1.heap.size hz3 (fun e=>by have:=Option.some.inj e; omega)).trans Tn.out));have U5:=hid (heap_alloc_new w4 (.cells #[.int .i64 yk,.int .i64 ym,.int .i64 yf,.int .i64 yt,.slice ynp ynn ync,.slice ykp ykn ykc] 96));have HKI:Hid (Kids (w.heap.size+1) (.slice (some ⟨w4.heap.size,0,none⟩) 1 1) (w4.alloc (.cells #[.int .i64 yk,.int .i64 ym,.int .i64 yf,.int .i64 yt,.slice ynp ynn ync,.slice ykp ykn ykc] 96)) [(Br.mk ⟨yk,ym,yf,yt,ynp,ynn,ync,yns,ykp,ykn,ykc⟩ yks)]):=hid (vZ (w:=w3) (by omega) hyl hyo 1 1);have HR4:=hid (hr4.step hbB);have tY:=hid (ae (ae jW.out hg4) (grown_below hbB _));have EH:Hid (tot=.ok (node 9 n n4 [m] [Br.pb (Br.mk ⟨yk,ym,yf,yt,ynp,ynn,ync,yns,ykp,ykn,ykc⟩ yks)]) n4):=hid (by rw [nC.out,hpo,bind_ok,hyp]);have HB:=hid (aC S n4 d 9 n (some ⟨w1.heap.size,0,none⟩) 1 1 (some ⟨w4.heap.size,0,none⟩) 1 1 _ HR4.out);have AO:w.heap.size+1≤w4.heap.size:=by omega
    clear hpo hyl hyo hyp hr4 hg4 hbB HY;simp only [Hd.val,Br.h] at *
    go_wp2_with fail
    refine HB.out.mono ?_
    rintro e w7 ⟨rfl,hb7⟩;have hown:w7.ownsRow (w.heap.size+1) 3 1 (.slice (some ⟨w1.heap.size,0,none⟩) 1 1) [m].length ([m].map mkN):=ed ((hb7.block _ (Array.getElem?_eq_some_iff.1 KH.out).1).trans KH.out) hz1 rfl (by unfold maxLen; omega);have VD:w7.ownsRow (w.heap.size+1) 96 6 (.slice (some ⟨w4.heap.size,0,none⟩) 1 1) [(Br.mk ⟨yk,ym,yf,yt,ynp,ynn,ync,yns,ykp,ykn,ykc⟩ yks)].length (bM [(Br.mk ⟨yk,ym,yf,yt,ynp,ynn,ync,yns,ykp,ykn,ykc⟩ yks)]):=ed ((hb7.block _ (Array.getElem?_eq_some_iff.1 U5.out).1).trans U5.out) AO rfl (by unfold maxLen; omega);have HL:=bZ (w0:=w) (w1:=w) 9 0 n n4 hown VD (HKI.out.step hb7);have FIN:=hid (bJ (o:=tot) (node 9 n n4 [m] [Br.pb (Br.mk ⟨yk,ym,yf,yt,ynp,ynn,ync,yns,ykp,ykn,ykc⟩ yks)]) 9 0 n n4 (some ⟨w1.heap.size,0,none⟩) 1 1 _ (some ⟨w4.heap.size,0,none⟩) 1 1 [(Br.mk ⟨yk,ym,yf,yt,ynp,ynn,ync,yns,ykp,ykn,ykc⟩ yks)] (HR4.out.step hb7) (ae tY.out (grown_below hb7 _)) hgl aZ EH.out HL.1 HL.2 (by simp [Br.pb,pbs,node]));clear HL hb7 hown VD;obtain ⟨c0,c1,c2,c3,c4,c5,f0,f1,f2,f3,f4,f5⟩:=FIN.out.al
    go_wp2_with fail
    obtain ⟨_,_,_,_,_,_,_,d0,d1,d2,d3,d4,d5,hfin⟩:=FIN.out;refine bodyPost_ret (by simp [results,results279,go_sem,d0,d1,d2,d3,d4,d5,Result.andThen]; try rfl) rfl ?_
    exact hfin
   ·exact ⟨rfl,Or.inr ⟨ch,by rw [nC.out]; exact aj ho,rfl,ae (grown_below ((Below.refl _ _).alloc (Nat.le_refl _) _) _) (ae jW.out hg4)⟩⟩
 ·exact ⟨rfl,Or.inr ⟨ch,by rw [fE.out]; exact aj ho,rfl,ae (grown_below ((Below.refl _ _).alloc (Nat.le_refl _) _) _) hg⟩⟩
def R1 (w0:World):Nat→Value→World→Prop:=fun m v w'=>w'.ownsRow w0.heap.size 3 1 v [m].length ([m].map mkN)
theorem XJ (args:Array Value) (w:World):Sem.run prog (callFunc 279 args) w=.ok (.enter 279 args) w:=bI func279 (by kernel_rfl) (by kernel_rfl) args w
set_option maxHeartbeats 2000000 in
theorem JU (S:Src) (F:Nat) (rec:Nt→Nat→Nat→Out Pb) (d:Nat) (hs:Said S rec d) (hF:F≤1000000000)
  (hT:∀ k w',Rd w' S k d→bT S F k≠.dry→Calls prog 235 #[.pointer (some ⟨S.g,0,none⟩)] w' fun e w''=>Ends S d w' (bT S F k) (R1 w') e w'')
  (n:Nat) (w:World) (h:Rd w S n d) (aJ:fV S F rec d n≠.dry) :
  Calls prog 278 #[.pointer (some ⟨S.g,0,none⟩)] w fun e w'=>Ends S d w (fV S F rec d n) (RB w) e w':=by
 have hgl:=h.lt;have aZ:=h.row;have hb1:Below w.heap.size w (w.alloc aK):=(Below.refl w.heap.size w).alloc (Nat.le_refl _) _;have hr1:=h.step hb1;have q2:=hr1.c2;have hgz:(w.alloc aK).heap.size=w.heap.size+1:=by simp
 unfold fV at aJ ⊢;have HT:=hid (hT n _ hr1 (aF aJ));obtain ⟨tot,htot⟩:∃ tot,tot=(bT S F n).bind fun m n1=>(S.need [61] n1).bind fun _ n2=>(gI S F [124] (lW S rec d) n2).bind fun l n3=>.ok (node 8 n n3 [m] l) n3:=⟨_,rfl⟩
 have fP:Hid (tot≠.dry):=hid (by rw [htot]; exact aJ);rw [← htot];have fE:=hid htot;clear hr1 hb1 h aJ htot hT
 go_enter func278,ntmps278
 go_wp2_with fail
 refine HT.out.mono ?_
 rintro e w1 (⟨m,n1,v,hpo,rfl,hv,hr,hg⟩ | ⟨ch,ho,rfl,hg⟩)
 ·obtain ⟨np,nc,rfl⟩:=eF hv
  have hz1:w.heap.size+1≤w1.heap.size:=by have:=hg.size; omega
  have U9:=hid (own_base (base':=w.heap.size+1) hv (by omega));have AY:=hid hg;have iW:Hid (tot=(S.need [61] n1).bind fun _ n2=>(gI S F [124] (lW S rec d) n2).bind fun l n3=>.ok (node 8 n n3 [m] l) n3):=hid (by rw [fE.out,hpo,bind_ok]);have HN:=hid (bF S n1 d ⟨#[61]⟩ w1 hr (by simp));clear hpo hr hg hv HT fE
  go_wp2_with fail
  refine HN.out.mono ?_
  rintro e w2 (⟨u,n2,v,hno,rfl,hv,hr2,hg2⟩ | ⟨ch,ho,rfl,hg2⟩)
  ·obtain rfl:v=.tuple #[]:=hv
   have Tq:=hid (U9.out.kept hg2 (Or.inr (fun e=>by have:=(U9.out.lt _ e).1; omega)));have HG2:=hid (ae AY.out hg2);have hz2:w.heap.size+1≤w2.heap.size:=Nat.le_trans hz1 hg2.size;have nC:Hid (tot=(gI S F [124] (lW S rec d) n2).bind fun l n3=>.ok (node 8 n n3 [m] l) n3):=hid (by rw [iW.out]; rw [show S.need [61] n1=.ok u n2 from hno,bind_ok]);have HW:=hid (lG 279 #[] XJ S F n2 d ⟨#[124]⟩ (lW S rec d) _ hr2 (by simp) hF (fun k w' hr _ hnd=>Qe S rec d hs k w' hr hnd) (aF (by rw [← nC.out]; exact fP.out)));clear hno hr2 hg2 HN iW
   go_wp2_with fail
   refine HW.out.mono ?_
   rintro e w4 (⟨l,n4,v,hpo,rfl,⟨ys,hown,hK,hmap⟩,hr4,hg4⟩ | ⟨ch,ho,rfl,hg4⟩)
   ·obtain ⟨kp,kc,rfl⟩:=eF hown
    have VE:=hid (Tq.out.kept hg4 (Or.inr (fun e=>by have:=(Tq.out.lt _ e).1; omega)));have oJ:=hid (ae HG2.out hg4);have kW:=hid (own_base (base':=w.heap.size+1) hown hz2);have qN:Hid (Kids (w.heap.size+1) (.slice kp ys.length kc) w4 ys):=hid (fun y hy=>⟨(hK y hy).1,(hK y hy).2.mono (fun q hq=>⟨by have:=hq.1; omega,hq.2⟩) _⟩);have EH:Hid (tot=.ok (node 8 n n4 [m] l) n4):=hid (by rw [nC.out,hpo,bind_ok]);have nz:=hid hmap;have ni:=hid hr4;have HB:=hid (aC S n4 d 8 n np [m].length nc kp ys.length kc w4 hr4);clear hpo hown hK hmap hr4 hg4 HW;obtain ⟨nl,hnl⟩:∃ nl,nl=ys.length:=⟨_,rfl⟩
    have yz:=hid hnl;rw [← hnl] at kW qN HB ⊢;clear hnl;simp only [List.length_cons,List.length_nil,Nat.zero_add] at HB ⊢
    go_wp2_with fail
    refine HB.out.mono ?_
    rintro e w7 ⟨rfl,hb7⟩;have HL:=bZ (w0:=w) (w1:=w) (N:=w.heap.size+1) 8 0 n n4 (ownsRow_below VE.out hb7) (by rw [← yz.out]; exact ownsRow_below kW.out hb7) (qN.out.step hb7);have FIN:=hid (bJ (o:=tot) (node 8 n n4 [m] l) 8 0 n n4 np 1 nc _ kp nl kc ys (ni.out.step hb7) (ae oJ.out (grown_below hb7 _)) hgl aZ EH.out HL.1 HL.2 (by rw [← nz.out]; simp [Br.pb,eQ,node]));clear HL hb7;obtain ⟨c0,c1,c2,c3,c4,c5,f0,f1,f2,f3,f4,f5⟩:=FIN.out.al
    go_wp2_with fail
    obtain ⟨_,_,_,_,_,_,_,d0,d1,d2,d3,d4,d5,hfin⟩:=FIN.out;refine bodyPost_ret (by simp [results,results278,go_sem,d0,d1,d2,d3,d4,d5,Result.andThen]; try rfl) rfl ?_
    exact hfin
   ·exact ⟨rfl,Or.inr ⟨ch,by rw [nC.out]; exact aj ho,rfl,ae (grown_below ((Below.refl _ _).alloc (Nat.le_refl _) _) _) (ae HG2.out hg4)⟩⟩
  ·exact ⟨rfl,Or.inr ⟨ch,by rw [iW.out]; exact aj ho,rfl,ae (grown_below ((Below.refl _ _).alloc (Nat.le_refl _) _) _) (ae AY.out hg2)⟩⟩
 ·exact ⟨rfl,Or.inr ⟨ch,by rw [fE.out]; exact aj ho,rfl,ae (grown_below ((Below.refl _ _).alloc (Nat.le_refl _) _) _) hg⟩⟩
set_option maxHeartbeats 2000000 in
theorem oI (S:Src) (F n d:Nat) (hF:F≤1000000000) (w:World) (h:Rd w S n d) (aJ:bT S F n≠.dry) :
  Calls prog 235 #[.pointer (some ⟨S.g,0,none⟩)] w fun e w'=>Ends S d w (bT S F n) (R1 w) e w':=by
 have hgl:=h.lt;have aZ:=h.row;have hbd:=h.bound;have HR:=hid h;have AP:=hid (bH S n d w h);obtain ⟨tot,htot⟩:∃ tot,tot=bT S F n:=⟨_,rfl⟩
 have fP:Hid (tot≠.dry):=hid (by rw [htot]; exact aJ);rw [← htot];unfold bT at htot;have fE:=hid htot;clear h aJ htot
 cases h8:(S.kd n == 8)
 ·cases hp:S.is n [40]
  ·have iW:Hid (tot=S.take [6] n):=hid (by rw [fE.out,h8,hp]; rfl)
   go_enter func235,ntmps235
   go_wp2_with fail
   refine AP.out.mono ?_
   rintro e w2 ⟨rfl,hb2⟩;have HP:=hid (aH S n d ⟨#[40]⟩ w2 (HR.out.step hb2) (by simp))
   simp only at HP
   rw [hp] at HP;have HG2:=hid (grown_below hb2 (some S.g));clear hb2
   go_wp2_with fail
   refine HP.out.mono ?_
   rintro e w3 ⟨rfl,hr3,hg3⟩;have AV:Hid (Rd w3 S n d):=hid hr3;have Hr:=hid (ae HG2.out hg3);clear hr3 hg3 HP;have ht:=take1 S (n) d 6 (by decide) w3 AV.out;have HT:=hid ht;clear ht
   go_wp2_with fail
   refine HT.out.mono ?_
   rintro e w9 (⟨m,n9,v,hpo,rfl,hv,hr,hg⟩ | ⟨ch,ho,rfl,hg⟩)
   ·obtain rfl:v=.int .i64 (m:Int):=hv
    have hb:Below w9.heap.size w9 (w9.alloc (.cells #[.int .i64 (m:Int)] 3)):=(Below.refl _ _).alloc (Nat.le_refl _) _;have hgg:=ae Hr.out hg;have hown:(w9.alloc (.cells #[.int .i64 (m:Int)] 3)).ownsRow w.heap.size 3 1 (.slice (some ⟨w9.heap.size,0,none⟩) 1 1) [m].length ([m].map mkN):=ed (heap_alloc_new w9 (.cells #[.int .i64 (m:Int)] 3)) hgg.size rfl (by unfold maxLen; omega);have HE:=hid (And.intro (iW.out.trans hpo) (And.intro hown (And.intro (hr.step hb) (ae hgg (grown_below hb (some S.g))))));clear hpo hr hg hb hgg hown
    go_wp2_with fail
    go_ret
    exact Or.inl ⟨m,n9,_,HE.out.1,rfl,HE.out.2.1,HE.out.2.2.1,HE.out.2.2.2⟩
   ·exact ⟨rfl,Or.inr ⟨ch,by rw [iW.out]; exact ho,rfl,ae Hr.out hg⟩⟩
  ·have VF:Hid (tot=(S.take [8] (n+1)).bind fun _ n1=>(jv S F n1).bind fun _ n2=>(S.need [41] n2).bind fun _ n3=>S.take [6] n3):=hid (by rw [fE.out,h8,hp]; rfl)
   go_enter func235,ntmps235
   go_wp2_with fail
   refine AP.out.mono ?_
   rintro e w2 ⟨rfl,hb2⟩;have HP:=hid (aH S n d ⟨#[40]⟩ w2 (HR.out.step hb2) (by simp))
   simp only at HP
   rw [hp] at HP;have HG2:=hid (grown_below hb2 (some S.g));clear hb2
   go_wp2_with fail
   refine HP.out.mono ?_
   rintro e w3 ⟨rfl,hr3,hg3⟩;have jW:=hid (ae HG2.out hg3);have HT8:=hid (take1 S (n+1) d 8 (by decide) w3 hr3);clear hr3 hg3 HP
   go_wp2_with fail
   refine HT8.out.mono ?_
   rintro e w4 (⟨m0,n4,v,hpo,rfl,hv,hr4,hg4⟩ | ⟨ch,ho,rfl,hg⟩)
   ·obtain rfl:v=.int .i64 (m0:Int):=hv
    have YG:Hid (tot=(jv S F n4).bind fun _ n2=>(S.need [41] n2).bind fun _ n3=>S.take [6] n3):=hid (by rw [VF.out,hpo,bind_ok]);have HR4:=hid hr4;have tY:=hid (ae jW.out hg4);clear hpo hr4 hg4 HT8 h8 hp
    go_wp2_with fail
    go_loopg [] F (fun gk wr=>∃ i:Nat,Hid (tot=(jv S gk i).bind fun _ n2=>(S.need [41] n2).bind fun _ n3=>S.take [6] n3)∧Hid (Rd wr S i d)∧w.grownBy wr (some S.g))
    case atStart=>exact ⟨n4,YG,HR4,tY.out⟩
    case round =>
     obtain ⟨i,HL,Gx,hgr⟩:=hrel;have rX:=hid hgr;clear hgr
     cases gk with
     | zero=>exact absurd HL.out (by intro e; exact fP.out e)
     | succ gk =>
     have zN:=HL.out;simp only [jv] at zN;have tX:=hid zN;have HP:=hid (aH S i d ⟨#[44]⟩ wr Gx.out (by simp))
     simp only at HP
     clear zN HL
     cases hm:S.is i [44] <;> rw [hm] at HP
     ·have La:Hid (tot=(S.need [41] i).bind fun _ n3=>S.take [6] n3):=hid (by rw [tX.out,hm]; rfl)
      clear hm tX
      go_wp2_with fail
      refine HP.out.mono ?_
      rintro e w5 ⟨rfl,rV,hg5⟩;have oJ:=hid (ae rX.out hg5);have HN:=hid (bF S i d ⟨#[41]⟩ w5 rV (by simp));clear rV hg5 HP
      go_wp2_with fail
      refine HN.out.mono ?_
      rintro e w6 (⟨u,n6,v,hno,rfl,hv,AQ,rW⟩ | ⟨ch,ho,rfl,rW⟩)
      ·obtain rfl:v=.tuple #[]:=hv
       have iW:Hid (tot=S.take [6] n6):=hid (by rw [La.out]; rw [show S.need [41] i=.ok u n6 from hno,bind_ok]);have AV:=hid AQ;have Hr:=hid (ae oJ.out rW);clear hno AQ rW HN;have ht:=take1 S (n6) d 6 (by decide) w6 AV.out;have HT:=hid ht;clear ht
       go_wp2_with fail
       refine HT.out.mono ?_
       rintro e w9 (⟨m,n9,v,hpo,rfl,hv,hr,hg⟩ | ⟨ch,ho,rfl,hg⟩)
       ·obtain rfl:v=.int .i64 (m:Int):=hv
        have hb:Below w9.heap.size w9 (w9.alloc (.cells #[.int .i64 (m:Int)] 3)):=(Below.refl _ _).alloc (Nat.le_refl _) _;have hgg:=ae Hr.out hg;have hown:(w9.alloc (.cells #[.int .i64 (m:Int)] 3)).ownsRow w.heap.size 3 1 (.slice (some ⟨w9.heap.size,0,none⟩) 1 1) [m].length ([m].map mkN):=ed (heap_alloc_new w9 (.cells #[.int .i64 (m:Int)] 3)) hgg.size rfl (by unfold maxLen; omega);have HE:=hid (And.intro (iW.out.trans hpo) (And.intro hown (And.intro (hr.step hb) (ae hgg (grown_below hb (some S.g))))));clear hpo hr hg hb hgg hown
        go_wp2_with fail
        go_ret
        exact Or.inl ⟨m,n9,_,HE.out.1,rfl,HE.out.2.1,HE.out.2.2.1,HE.out.2.2.2⟩
       ·exact ⟨rfl,Or.inr ⟨ch,by rw [iW.out]; exact ho,rfl,ae Hr.out hg⟩⟩
      ·exact ⟨rfl,Or.inr ⟨ch,by rw [La.out]; exact aj ho,rfl,ae oJ.out rW⟩⟩
     ·have La:Hid (tot=((S.take [8] (i+1)).bind fun _ n1=>jv S gk n1).bind fun _ n2=>(S.need [41] n2).bind fun _ n3=>S.take [6] n3):=hid (by rw [tX.out,hm]; rfl)
      clear hm tX
      go_wp2_with fail
      refine HP.out.mono ?_
      rintro e w5 ⟨rfl,rV,hg5⟩;have oJ:=hid (ae rX.out hg5);have HT9:=hid (take1 S (i+1) d 8 (by decide) w5 rV);clear rV hg5 HP
      go_wp2_with fail
      refine HT9.out.mono ?_
      rintro e w6 (⟨m1,n6,v,hpo,rfl,hv,AQ,rW⟩ | ⟨ch,ho,rfl,rW⟩)
      ·obtain rfl:v=.int .i64 (m1:Int):=hv
       have HL6:Hid (tot=(jv S gk n6).bind fun _ n2=>(S.need [41] n2).bind fun _ n3=>S.take [6] n3):=hid (by rw [La.out,hpo]; rfl);have qL:=hid AQ;have Ba:=hid (ae oJ.out rW);clear hpo AQ rW
       go_wp2_with fail
       go_roundg gk
       case measure=>omega
       case rel=>exact ⟨n6,HL6,qL,Ba.out⟩
      ·exact ⟨rfl,Or.inr ⟨ch,by rw [La.out]; exact aj (aj ho),rfl,ae oJ.out rW⟩⟩
   ·exact ⟨rfl,Or.inr ⟨ch,by rw [VF.out]; exact aj ho,rfl,ae jW.out hg⟩⟩
 ·have iW:Hid (tot=S.take [6] (n+1)):=hid (by rw [fE.out,h8]; rfl)
  have hk0:S.kd n≠0:=by intro e; rw [e] at h8; cases h8
  go_enter func235,ntmps235
  go_wp2_with fail
  refine AP.out.mono ?_
  rintro e w2 ⟨rfl,hb2⟩;have hr2:=HR.out.step hb2;have hmore:=hr2.moreK hk0;have AV:=hid (hr2.bump hmore);have d2:=hr2.c2;have fz2:=hr2.free 2;have Hr:=hid (ae (grown_below hb2 (some S.g)) (aS S.g 2 (.int .i64 ((n:Int)+1))));clear hr2 hb2 hk0;have ht:=take1 S (n+1) d 6 (by decide) _ AV.out;rw [show (w2.setCell ⟨S.g,2,none⟩ (.int .i64 ((n:Int)+1))).heap.size=w2.heap.size from by simp] at ht;have HT:=hid ht;clear ht
  go_wp2_with fail
  refine HT.out.mono ?_
  rintro e w9 (⟨m,n9,v,hpo,rfl,hv,hr,hg⟩ | ⟨ch,ho,rfl,hg⟩)
  ·obtain rfl:v=.int .i64 (m:Int):=hv
   have hb:Below w9.heap.size w9 (w9.alloc (.cells #[.int .i64 (m:Int)] 3)):=(Below.refl _ _).alloc (Nat.le_refl _) _;have hgg:=ae Hr.out hg;have hown:(w9.alloc (.cells #[.int .i64 (m:Int)] 3)).ownsRow w.heap.size 3 1 (.slice (some ⟨w9.heap.size,0,none⟩) 1 1) [m].length ([m].map mkN):=ed (heap_alloc_new w9 (.cells #[.int .i64 (m:Int)] 3)) hgg.size rfl (by unfold maxLen; omega);have HE:=hid (And.intro (iW.out.trans hpo) (And.intro hown (And.intro (hr.step hb) (ae hgg (grown_below hb (some S.g))))));clear hpo hr hg hb hgg hown
   go_wp2_with fail
   go_ret
   exact Or.inl ⟨m,n9,_,HE.out.1,rfl,HE.out.2.1,HE.out.2.2.1,HE.out.2.2.2⟩
  ·exact ⟨rfl,Or.inr ⟨ch,by rw [iW.out]; exact ho,rfl,ae Hr.out hg⟩⟩
theorem XP (args:Array Value) (w:World):Sem.run prog (callFunc 278 args) w=.ok (.enter 278 args) w:=bI func278 (by kernel_rfl) (by kernel_rfl) args w
set_option maxHeartbeats 2000000 in
theorem yF (S:Src) (F:Nat) (rec:Nt→Nat→Nat→Out Pb) (d fr:Nat) (hF:F≤1000000000) (n:Nat) (w:World) (h:Rd w S n d)
  (hD:∀ k w',Rd w' S k d→fV S F rec d k≠.dry→Calls prog 278 #[.pointer (some ⟨S.g,0,none⟩)] w' fun e w''=>Ends S d w' (fV S F rec d k) (RB w') e w'')
  (aJ:bU S F rec d fr n≠.dry) :
  Calls prog 237 #[.pointer (some ⟨S.g,0,none⟩),.int .i64 (fr:Int)] w fun e w'=>Ends S d w (bU S F rec d fr n) (RB w) e w':=by
 have hgl:=h.lt;have aZ:=h.row;have hb1:Below w.heap.size w (w.alloc aK):=(Below.refl w.heap.size w).alloc (Nat.le_refl _) _;have hr1:=h.step hb1;have q2:=hr1.c2;unfold bU at aJ ⊢;have HW:=hid (lG 278 #[] XP S F n d ⟨#[97,110,100]⟩ (fV S F rec d) _ hr1 (by simp) hF (fun k w' hr _ hnd=>hD k w' hr hnd) (aF aJ));obtain ⟨tot,htot⟩:∃ tot,tot=((gI S F [97,110,100] (fV S F rec d) n).bind fun l n1=>Out.ok (node 7 fr n1 [] l) n1):=⟨_,rfl⟩
 rw [← htot];have fE:=hid htot;clear hr1 hb1 h aJ hD htot
 go_enter func237,ntmps237
 go_wp2_with fail
 refine HW.out.mono ?_
 rintro e w4 (⟨l,n4,v,hpo,rfl,⟨ys,hown,hK,hmap⟩,hr4,hg4⟩ | ⟨ch,ho,rfl,hg4⟩)
 ·obtain ⟨kp,kc,rfl⟩:=eF hown
  have oJ:=hid hg4;have kW:=hid (own_base (base':=w.heap.size+1) hown (by simp));have qN:Hid (Kids (w.heap.size+1) (.slice kp ys.length kc) w4 ys):=hid (fun y hy=>⟨(hK y hy).1,(hK y hy).2.mono (fun q hq=>⟨by have:=hq.1; simpa using this,hq.2⟩) _⟩);have iW:Hid (tot=.ok (node 7 fr n4 [] l) n4):=hid (by rw [fE.out,hpo,bind_ok]);have nz:=hid hmap;have ni:=hid hr4;have HB:=hid (aC S n4 d 7 fr none 0 0 kp ys.length kc w4 hr4);clear hpo hown hK hmap hr4 hg4;obtain ⟨nl,hnl⟩:∃ nl,nl=ys.length:=⟨_,rfl⟩
  have yz:=hid hnl;rw [← hnl] at kW qN HB ⊢;clear hnl
  go_wp2_with fail
  refine HB.out.mono ?_
  rintro e w7 ⟨rfl,hb7⟩;have HL:=bZ (w0:=w) (w1:=w) (N:=w.heap.size+1) 7 0 fr n4 (gU (w:=w7)) (by rw [← yz.out]; exact ownsRow_below kW.out hb7) (qN.out.step hb7);have FIN:=hid (bJ (o:=tot) (node 7 fr n4 [] l) 7 0 fr n4 none 0 0 _ kp nl kc ys (ni.out.step hb7) (ae oJ.out (grown_below hb7 _)) hgl aZ iW.out HL.1 HL.2 (by rw [← nz.out]; simp [Br.pb,eQ,node]));clear HL hb7;obtain ⟨c0,c1,c2,c3,c4,c5,f0,f1,f2,f3,f4,f5⟩:=FIN.out.al
  go_wp2_with fail
  obtain ⟨_,_,_,_,_,_,_,d0,d1,d2,d3,d4,d5,hfin⟩:=FIN.out;refine bodyPost_ret (by simp [results,results237,go_sem,d0,d1,d2,d3,d4,d5,Result.andThen]; try rfl) rfl ?_
  exact hfin
 ·exact ⟨rfl,Or.inr ⟨ch,by rw [fE.out]; exact aj ho,rfl,ae (grown_below ((Below.refl _ _).alloc (Nat.le_refl _) _) _) hg4⟩⟩
end Go.Proofs.YtmpmfamiegpmgaaGreatDoor
