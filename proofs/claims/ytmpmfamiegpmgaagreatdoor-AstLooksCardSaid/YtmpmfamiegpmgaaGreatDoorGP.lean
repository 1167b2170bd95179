/-
  The reader's clause.; The reader's arm.; The reader's exp: what lies within one part.
-/
import Derived.Test.YtmpmfamiegpmgaaGreatDoorGH
import Derived.Test.YtmpmfamiegpmgaaGreatDoorGI
namespace Go.Proofs.YtmpmfamiegpmgaaGreatDoor
open Tryz
open Go.Lib (cell_of_heap hid)
open Go.RowKit
set_option maxRecDepth 20000
set_option linter.unusedVariables false
set_option linter.unusedSimpArgs false
set_option maxHeartbeats 2000000 in
theorem vV (S:Src) (rec:Nt→Nat→Nat→Out Pb) (d:Nat) (hs:Said S rec d) (kd:Int) (fr n:Nat) (w:World) (h:Rd w S n d) (aG:gy S rec d kd fr n≠.dry) :
  Calls prog 273 #[.pointer (some ⟨S.g,0,none⟩),.int .i64 kd,.int .i64 (fr:Int)] w fun e w'=>Ends S d w (gy S rec d kd fr n) (RB w) e w':=by
 have hgl:=h.lt;have aW:=h.row;have hb1:Below w.heap.size w (w.alloc aH):=(Below.refl w.heap.size w).alloc (Nat.le_refl _) _;have hr1:=h.step hb1;have hgz:w.heap.size+1≤(w.alloc aH).heap.size:=by simp
 unfold gy at aG ⊢;have HP:=hid (hs.pat n _ hr1 (aA aG));have eQ:=hid aG;obtain ⟨tot,htot⟩:∃ tot,tot=(rec .pat d n).bind fun p n1=>(S.need [61,62] n1).bind fun _ n2=>(rec .exp d n2).bind fun e n3=>.ok (node kd fr n3 [] [p,e]) n3:=⟨_,rfl⟩
 rw [← htot] at eQ ⊢;have dW:=hid htot;clear hr1 hb1 h aG htot
 go_enter func273,ntmps273
 go_wp2_with fail
 refine HP.out.mono ?_
 rintro e w2 (⟨b,n2,v,hpo,rfl,⟨y,rfl,hyl,hyo,hyp⟩,hr2,hg2⟩ | ⟨ch,ho,rfl,hg2⟩)
 ·obtain ⟨⟨yk,ym,yf,yt,ynp,ynn,ync,yns,ykp,ykn,ykc⟩,yks⟩:=y
  have hz2:w.heap.size+1≤w2.heap.size:=by have:=hg2.size; simpa using this
  have hb3:Below w2.heap.size w2 (w2.alloc (.cells #[.int .i64 0,.int .i64 0,.int .i64 0,.int .i64 0,.slice none 0 0,.slice none 0 0] 96)):=(Below.refl _ _).alloc (Nat.le_refl _) _;have sU:=heap_alloc_new w2 (.cells #[.int .i64 0,.int .i64 0,.int .i64 0,.int .i64 0,.slice none 0 0,.slice none 0 0] 96);obtain ⟨gG,hgs⟩:=iq sU (.int .i64 yk) (.int .i64 ym) (.int .i64 yf) (.int .i64 yt) (.slice ynp ynn ync) (.slice ykp ykn ykc);have hn1:¬ S.g=w2.heap.size:=by omega
  have hn2:¬ w2.heap.size=S.g:=by omega
  have hr3:=(hr2.step hb3).grow hgs (fun e=>by have:=Option.some.inj e; omega) (fun e=>by have:=Option.some.inj e; omega);have Kt:=Br.On.low _ hyo hyl;have Ku:Br.Lies (((((((w2.alloc (.cells #[.int .i64 0,.int .i64 0,.int .i64 0,.int .i64 0,.slice none 0 0,.slice none 0 0] 96)).setCell ⟨w2.heap.size,0,none⟩ (.int .i64 yk)).setCell ⟨w2.heap.size,1,none⟩ (.int .i64 ym)).setCell ⟨w2.heap.size,2,none⟩ (.int .i64 yf)).setCell ⟨w2.heap.size,3,none⟩ (.int .i64 yt)).setCell ⟨w2.heap.size,4,none⟩ (.slice ynp ynn ync)).setCell ⟨w2.heap.size,5,none⟩ (.slice ykp ykn ykc)) (Br.mk ⟨yk,ym,yf,yt,ynp,ynn,ync,yns,ykp,ykn,ykc⟩ yks):=Br.Lies.kept (P:=fun q=>q≠w2.heap.size) _ hgs.size (fun q hq hlt=>hgs.block q hlt (fun e=>hq (Option.some.inj e))) (Kt.mono (fun q hq=>by have:=hq.2; omega) _) (hyl.step _ hb3);have sV:=hid Ku;have rW:Hid (Br.On (fun q=>w.heap.size+1≤q) (Br.mk ⟨yk,ym,yf,yt,ynp,ynn,ync,yns,ykp,ykn,ykc⟩ yks)):=hid (hyo.mono (fun q hq=>by simpa using hq) _);have iQ:Hid ((w.alloc aH).grownBy (((((((w2.alloc (.cells #[.int .i64 0,.int .i64 0,.int .i64 0,.int .i64 0,.slice none 0 0,.slice none 0 0] 96)).setCell ⟨w2.heap.size,0,none⟩ (.int .i64 yk)).setCell ⟨w2.heap.size,1,none⟩ (.int .i64 ym)).setCell ⟨w2.heap.size,2,none⟩ (.int .i64 yf)).setCell ⟨w2.heap.size,3,none⟩ (.int .i64 yt)).setCell ⟨w2.heap.size,4,none⟩ (.slice ynp ynn ync)).setCell ⟨w2.heap.size,5,none⟩ (.slice ykp ykn ykc)) (some S.g)):=hid (dm (ae hg2 (grown_below hb3 _)) hgs (fun q hq=>by have:=Option.some.inj hq; simp; omega));have UA:=hid gG;have GV:=hid (bF S n2 d ⟨#[61,62]⟩ (((((((w2.alloc (.cells #[.int .i64 0,.int .i64 0,.int .i64 0,.int .i64 0,.slice none 0 0,.slice none 0 0] 96)).setCell ⟨w2.heap.size,0,none⟩ (.int .i64 yk)).setCell ⟨w2.heap.size,1,none⟩ (.int .i64 ym)).setCell ⟨w2.heap.size,2,none⟩ (.int .i64 yf)).setCell ⟨w2.heap.size,3,none⟩ (.int .i64 yt)).setCell ⟨w2.heap.size,4,none⟩ (.slice ynp ynn ync)).setCell ⟨w2.heap.size,5,none⟩ (.slice ykp ykn ykc)) hr3 (by simp));have iw:Hid (tot=(S.need [61,62] n2).bind fun _ n3=>(rec .exp d n3).bind fun e n4=>.ok (node kd fr n4 [] [Br.pb (Br.mk ⟨yk,ym,yf,yt,ynp,ynn,ync,yns,ykp,ykn,ykc⟩ yks),e]) n4):=hid (by rw [dW.out,hpo,bind_ok,hyp]);have Kv:(((((((w2.alloc (.cells #[.int .i64 0,.int .i64 0,.int .i64 0,.int .i64 0,.slice none 0 0,.slice none 0 0] 96)).setCell ⟨w2.heap.size,0,none⟩ (.int .i64 yk)).setCell ⟨w2.heap.size,1,none⟩ (.int .i64 ym)).setCell ⟨w2.heap.size,2,none⟩ (.int .i64 yf)).setCell ⟨w2.heap.size,3,none⟩ (.int .i64 yt)).setCell ⟨w2.heap.size,4,none⟩ (.slice ynp ynn ync)).setCell ⟨w2.heap.size,5,none⟩ (.slice ykp ykn ykc)).heap.size=w2.heap.size+1:=by simp
  have tX:=hid Kv;have qq:=cell_of_heap sU;have r0:=qq 0;have r1:=qq 1;have r2:=qq 2;have r3:=qq 3;have r4:=qq 4;have r5:=qq 5;simp only [List.getElem?_toArray,List.getElem?_cons_zero,List.getElem?_cons_succ,aH] at r0 r1 r2 r3 r4 r5;clear qq;have fz:∀ i,(w2.alloc (.cells #[.int .i64 0,.int .i64 0,.int .i64 0,.int .i64 0,.slice none 0 0,.slice none 0 0] 96)).frozen? ⟨w2.heap.size,i,none⟩=false:=fun i=>ay sU i
  have f0:=fz 0;have f1:=fz 1;have f2:=fz 2;have f3:=fz 3;have f4:=fz 4;have f5:=fz 5;clear hpo hyl hyo hyp hr2 hg2 hb3 sU gG hgs hr3 Kt Ku fz dW HP Kv
  rename_i K1 hK1 K0 hK0
  show K0 _ _
  refine hK0 _ _ ?_
  refine wpList_step fun K2 hK2=>?_
  rw [if_pos (ag rfl)];unfold Oper.wp;have hrun:∀ a:Act,(execOp a.eval ⟨some 7,.alloc 96,0,"terms.go:41",#[],none⟩).run prog w2=.ok (.value (.pointer (some ⟨w2.heap.size,0,none⟩))) (w2.alloc (.cells #[.int .i64 0,.int .i64 0,.int .i64 0,.int .i64 0,.slice none 0 0,.slice none 0 0] 96)):=fun a=>by
   generalize a.eval=ρ
   simp [go_sem]
   try rfl
  rw [hrun,Oper.upon_value];refine hK2 _ _ ?_
  clear hrun hK2 hK0;simp only [Hd.val,Br.h,Act.put,List.setIfInBounds_toArray,List.set_cons_zero,List.set_cons_succ] at *;generalize hb4:w2.heap.size=b4 at *;generalize w2.alloc (.cells #[.int .i64 0,.int .i64 0,.int .i64 0,.int .i64 0,.slice none 0 0,.slice none 0 0] 96)=wA at *;clear hb4
  go_wp2_with fail
  refine GV.out.mono ?_
  rintro e w4 (⟨u,n3,v,hno,rfl,hv,hr4,hg4⟩ | ⟨ch,ho,rfl,hg4⟩)
  ·obtain rfl:v=.tuple #[]:=hv
   have HB4:=hid ((hg4.block b4 (by rw [tX.out]; omega) (fun e=>hn2 (Option.some.inj e))).trans UA.out);have G5:Hid (Br.Lies w4 (Br.mk ⟨yk,ym,yf,yt,ynp,ynn,ync,yns,ykp,ykn,ykc⟩ yks)):=hid (Br.Lies.kept (P:=fun q=>w.heap.size+1≤q) _ hg4.size (fun q hq hlt=>hg4.block q hlt (fun e=>by have:=Option.some.inj e; omega)) rW.out sV.out);have rD:=hid (ae iQ.out hg4);have HR4:=hid hr4;have Qs:b4 < w4.heap.size:=by have:=hg4.size; have h2:=tX.out; omega
   have Ro:w.heap.size < w4.heap.size:=by omega
   have mF:Hid (tot=(rec .exp d n3).bind fun e n4=>.ok (node kd fr n4 [] [Br.pb (Br.mk ⟨yk,ym,yf,yt,ynp,ynn,ync,yns,ykp,ykn,ykc⟩ yks),e]) n4):=hid (by rw [iw.out]; rw [show S.need [61,62] n2=.ok u n3 from hno,bind_ok]);clear hg4 GV iQ UA sV tX r0 r1 r2 r3 r4 r5 f0 f1 f2 f3 f4 f5 hno hr4 iw;generalize ((((((wA.setCell ⟨b4,0,none⟩ (.int .i64 yk)).setCell ⟨b4,1,none⟩ (.int .i64 ym)).setCell ⟨b4,2,none⟩ (.int .i64 yf)).setCell ⟨b4,3,none⟩ (.int .i64 yt)).setCell ⟨b4,4,none⟩ (.slice ynp ynn ync)).setCell ⟨b4,5,none⟩ (.slice ykp ykn ykc))=w3 at *
   go_wp2_with fail
   refine aY (fun W:World=>W.heap[b4]?=some (.cells #[.int .i64 yk,.int .i64 ym,.int .i64 yf,.int .i64 yt,.slice ynp ynn ync,.slice ykp ykn ykc] 96 (0,0))) 8 (by kernel_rfl) ?_
   have hbd:=(Below.refl w4.heap.size w4).drew;have hS:(fun W:World=>W.heap[b4]?=some (.cells #[.int .i64 yk,.int .i64 ym,.int .i64 yf,.int .i64 yt,.slice ynp ynn ync,.slice ykp ykn ykc] 96 (0,0))) w4.drew:=HB4.out;have HT:=hid (hs.exp n3 w4.drew (HR4.out.step hbd) (aA (by rw [← mF.out]; exact eQ.out)));have Ky:=hid (G5.out.step _ hbd);have UB:=hid (ae rD.out (grown_below hbd _));have Qu:=hid hS;have hzd:w4.drew.heap.size=w4.heap.size:=rfl;rw [← hzd] at Qs Ro;refine dL (N:=20) [(0,.pointer (some ⟨S.g,0,none⟩)),(1,.int .i64 kd),(2,.int .i64 (fr:Int)),(6,.pointer (some ⟨w.heap.size,0,none⟩)),(7,.pointer (some ⟨b4,0,none⟩))] (Fs.of rfl rfl (by simp [Act.eval])) ?_
   intro a0 ha0 hF;clear hzd hbd HR4 rD G5 HB4;generalize w4.drew=wd at *;refine ax 0 [7,8] (oi:=⟨some 12,.move (.tmp 0),143,"terms.go:43",#[],none⟩) (d:=12) (v:=.pointer (some ⟨S.g,0,none⟩)) hF hS rfl rfl (by decide) (by kernel_rfl) (by kernel_rfl) (by kernel_rfl) (by kernel_rfl) (fun _ _ _ h=>h) (fun a' hA=>ag rfl) (aF rfl rfl) ?_
   clear hF;intro hF;refine ax 1 [7,8] (oi:=⟨some 13,.move (.tmp 1),3,"terms.go:43",#[],none⟩) (d:=13) (v:=.int .i64 kd) hF hS rfl rfl (by decide) (by kernel_rfl) (by kernel_rfl) (by kernel_rfl) (by kernel_rfl) (fun _ _ _ h=>h) (fun a' hA=>ag rfl) (aF rfl rfl) ?_
   clear hF;intro hF;refine ax 2 [7,8] (oi:=⟨some 14,.move (.tmp 2),3,"terms.go:43",#[],none⟩) (d:=14) (v:=.int .i64 (fr:Int)) hF hS rfl rfl (by decide) (by kernel_rfl) (by kernel_rfl) (by kernel_rfl) (by kernel_rfl) (fun _ _ _ h=>h) (fun a' hA=>ag rfl) (aF rfl rfl) ?_
   clear hF;intro hF;refine ax 3 [6,7,8] (oi:=⟨some 15,.load 96 (.tmp 7),96,"terms.go:43",#[],none⟩) (d:=15) (v:=.agg #[.int .i64 yk,.int .i64 ym,.int .i64 yf,.int .i64 yt,.slice ynp ynn ync,.slice ykp ykn ykc]) hF hS rfl rfl (by decide) (by kernel_rfl) (by kernel_rfl) (by kernel_rfl) (by kernel_rfl) (fun _ _ _ h=>h) (fun a' hA=>ag rfl) (fun a' hA w' hw=>by have e7:=hA.get 7 rfl; have ec:∀ v,a'.eval (.const v)=v:=fun _=>rfl; have qq:=cell_of_heap hw; have q0:=qq 0; have q1:=qq 1; have q2:=qq 2; have q3:=qq 3; have q4:=qq 4; have q5:=qq 5; simp only [List.getElem?_toArray,List.getElem?_cons_zero,List.getElem?_cons_succ] at q0 q1 q2 q3 q4 q5; clear qq; clear hA; generalize a'.eval=ρ at *; simp [go_sem,ec,e7,q0,q1,q2,q3,q4,q5]; try rfl) ?_
   clear hF;intro hF;refine ax 4 [5,6,7,8] (oi:=⟨some 16,.move (.tmp 0),143,"terms.go:43",#[],none⟩) (d:=16) (v:=.pointer (some ⟨S.g,0,none⟩)) hF hS rfl rfl (by decide) (by kernel_rfl) (by kernel_rfl) (by kernel_rfl) (by kernel_rfl) (fun _ _ _ h=>h) (fun a' hA=>ag rfl) (aF rfl rfl) ?_
   clear hF;intro hF;refine au 5 (by kernel_rfl) (bK 5 (oi:=⟨some 17,.call ⟨.value (.func 232),#[.tmp 16],#[143]⟩,96,"terms.go:43",#[⟨4,.data⟩],none⟩) (d:=17) (R:=fun e w'=>Ends S d wd (rec .exp d n3) (RB wd) e w') hF rfl rfl (by decide) (fun a' hA=>ag rfl) (fun a' hA=>by have e16:=hA.get 16 rfl; have ef:∀ f,a'.eval (.func f)=.func (.func f) #[] #[]:=fun _=>rfl; have ec:∀ v,a'.eval (.const v)=v:=fun _=>rfl; clear hA; generalize a'.eval=ρ at *; simp [go_sem,ef,ec,e16]) HT.out (fun w'=>Ends.noOut) ?_ ?_)
   ·rintro ch w' (⟨_,_,_,_,h2,_⟩ | ⟨ch',ho,h2,hg⟩)
    ·cases h2
    ·have h2:=Ending.panicked.inj h2
     subst h2;have hq:bodyPost prog f273 (fun e w'=>Ends S d w tot (RB w) e w') (.panic ch) _ w':=⟨hF.2.1,Or.inr ⟨ch,by rw [mF.out]; exact ai ho,rfl,ae (grown_below ((Below.refl _ _).alloc (Nat.le_refl _) _) _) (ae UB.out hg)⟩⟩;exact hq
   rintro v w5 (⟨c,n5,v',hco,h2,⟨z,hv,hzl,Qv,hzp⟩,pG,hg5⟩ | ⟨_,_,h2,_⟩) hF2
   rotate_left
   ·cases h2
   have h2:=Ending.returned.inj h2;subst h2;obtain ⟨⟨zk,zm,zf,zt,znp,znn,znc,zns,zkp,zkn,zkc⟩,zks⟩:=z;have hv2:v=.agg #[.int .i64 zk,.int .i64 zm,.int .i64 zf,.int .i64 zt,.slice znp znn znc,.slice zkp zkn zkc]:=hv;subst hv2;clear hv hF;have hF:=hF2;clear hF2;have hb6:Below w5.heap.size w5 (w5.alloc (.cells #[.int .i64 yk,.int .i64 ym,.int .i64 yf,.int .i64 yt,.slice ynp ynn ync,.slice ykp ykn ykc,.int .i64 zk,.int .i64 zm,.int .i64 zf,.int .i64 zt,.slice znp znn znc,.slice zkp zkn zkc] 96)):=(Below.refl _ _).alloc (Nat.le_refl _) _;have DN:wd.heap.size≤w5.heap.size:=hg5.size;have nM:(fun W:World=>W.heap[b4]?=some (.cells #[.int .i64 yk,.int .i64 ym,.int .i64 yf,.int .i64 yt,.slice ynp ynn ync,.slice ykp ykn ykc] 96 (0,0))) w5:=(hg5.block b4 (by omega) (fun e=>by have:=Option.some.inj e; omega)).trans Qu.out;have ry:(fun W:World=>W.heap[b4]?=some (.cells #[.int .i64 yk,.int .i64 ym,.int .i64 yf,.int .i64 yt,.slice ynp ynn ync,.slice ykp ykn ykc] 96 (0,0))) (w5.alloc (.cells #[.int .i64 yk,.int .i64 ym,.int .i64 yf,.int .i64 yt,.slice ynp ynn ync,.slice ykp ykn ykc,.int .i64 zk,.int .i64 zm,.int .i64 zf,.int .i64 zt,.slice znp znn znc,.slice zkp zkn zkc] 96)):=(hb6.block b4 (by omega)).trans nM;have Rl:=hid (heap_alloc_new w5 (.cells #[.int .i64 yk,.int .i64 ym,.int .i64 yf,.int .i64 yt,.slice ynp ynn ync,.slice ykp ykn ykc,.int .i64 zk,.int .i64 zm,.int .i64 zf,.int .i64 zt,.slice znp znn znc,.slice zkp zkn zkc] 96));have qm:=hid (pG.step hb6);have Rq:Hid (Br.Lies (w5.alloc (.cells #[.int .i64 yk,.int .i64 ym,.int .i64 yf,.int .i64 yt,.slice ynp ynn ync,.slice ykp ykn ykc,.int .i64 zk,.int .i64 zm,.int .i64 zf,.int .i64 zt,.slice znp znn znc,.slice zkp zkn zkc] 96)) (Br.mk ⟨yk,ym,yf,yt,ynp,ynn,ync,yns,ykp,ykn,ykc⟩ yks)):=hid ((Br.Lies.kept (P:=fun q=>w.heap.size+1≤q) _ hg5.size (fun q hq hlt=>hg5.block q hlt (fun e=>by have:=Option.some.inj e; omega)) rW.out Ky.out).step _ hb6);have Ru:Hid (Br.Lies (w5.alloc (.cells #[.int .i64 yk,.int .i64 ym,.int .i64 yf,.int .i64 yt,.slice ynp ynn ync,.slice ykp ykn ykc,.int .i64 zk,.int .i64 zm,.int .i64 zf,.int .i64 zt,.slice znp znn znc,.slice zkp zkn zkc] 96)) (Br.mk ⟨zk,zm,zf,zt,znp,znn,znc,zns,zkp,zkn,zkc⟩ zks)):=hid (hzl.step _ hb6);have XN:Hid (Br.On (fun q=>w.heap.size+1≤q∧some q≠some w5.heap.size) (Br.mk ⟨zk,zm,zf,zt,znp,znn,znc,zns,zkp,zkn,zkc⟩ zks)):=hid ((Br.On.low _ Qv hzl).mono (fun q hq=>⟨by have:=hq.1; omega,fun e=>by have:=Option.some.inj e; have:=hq.2; omega⟩) _);have Rw:Hid (Br.On (fun q=>w.heap.size+1≤q∧some q≠some w5.heap.size) (Br.mk ⟨yk,ym,yf,yt,ynp,ynn,ync,yns,ykp,ykn,ykc⟩ yks)):=hid ((Br.On.low _ rW.out Ky.out).mono (fun q hq=>⟨hq.1,fun e=>by have:=Option.some.inj e; have:=hq.2; omega⟩) _);have Ac:=hid (ae (ae UB.out hg5) (grown_below hb6 _));have DU:Hid (tot=.ok (node kd fr n5 [] [Br.pb (Br.mk ⟨yk,ym,yf,yt,ynp,ynn,ync,yns,ykp,ykn,ykc⟩ yks),Br.pb (Br.mk ⟨zk,zm,zf,zt,znp,znn,znc,zns,zkp,zkn,zkc⟩ zks)]) n5):=hid (by rw [mF.out,hco,bind_ok,hzp]);have hk5:w.heap.size+1≤w5.heap.size:=by omega
   have DC:=hid (az S n5 d kd fr none 0 0 (some ⟨w5.heap.size,0,none⟩) 2 2 _ qm.out);refine ⟨fun _=>nM,?_⟩
   refine au 6 (by kernel_rfl) (dw 6 (oi:=⟨some 18,.buildSlice 94 2 #[(0,.tmp 15),(1,.tmp 17)],94,"terms.go:43",#[⟨3,.data⟩,⟨5,.data⟩],none⟩) (d:=18) (v:=.slice (some ⟨w5.heap.size,0,none⟩) 2 2) (w':=w5.alloc (.cells #[.int .i64 yk,.int .i64 ym,.int .i64 yf,.int .i64 yt,.slice ynp ynn ync,.slice ykp ykn ykc,.int .i64 zk,.int .i64 zm,.int .i64 zf,.int .i64 zt,.slice znp znn znc,.slice zkp zkn zkc] 96)) hF rfl rfl (by decide) (fun a' hA=>ag rfl) (fun a' hA=>by have e15:=hA.get 15 rfl; have e17:=hA.get 17 rfl; have ec:∀ v,a'.eval (.const v)=v:=fun _=>rfl; clear hA; generalize a'.eval=ρ at *; simp [go_sem,ec,e15,e17]; try rfl) ?_)
   clear hF;intro hF;refine ⟨fun _=>ry,?_⟩
   refine au 7 (by kernel_rfl) (bK 7 (oi:=⟨some 19,.call ⟨.value (.func 121),#[.tmp 12,.tmp 13,.tmp 14,.const (.slice none 0 0),.tmp 18],#[143,3,3,23,94]⟩,96,"terms.go:43",#[⟨0,.data⟩,⟨1,.data⟩,⟨2,.data⟩,⟨6,.data⟩,⟨5,.chain⟩],none⟩) (d:=19) (R:=fun e w'=>e=.returned (.agg #[.int .i64 kd,.int .i64 0,.int .i64 (fr:Int),.int .i64 (n5:Int),.slice none 0 0,.slice (some ⟨w5.heap.size,0,none⟩) 2 2])∧Below (w5.alloc (.cells #[.int .i64 yk,.int .i64 ym,.int .i64 yf,.int .i64 yt,.slice ynp ynn ync,.slice ykp ykn ykc,.int .i64 zk,.int .i64 zm,.int .i64 zf,.int .i64 zt,.slice znp znn znc,.slice zkp zkn zkc] 96)).heap.size (w5.alloc (.cells #[.int .i64 yk,.int .i64 ym,.int .i64 yf,.int .i64 yt,.slice ynp ynn ync,.slice ykp ykn ykc,.int .i64 zk,.int .i64 zm,.int .i64 zf,.int .i64 zt,.slice znp znn znc,.slice zkp zkn zkc] 96)) w') hF rfl rfl (by decide) (fun a' hA=>ag rfl) (fun a' hA=>by have e12:=hA.get 12 rfl; have e13:=hA.get 13 rfl; have e14:=hA.get 14 rfl; have e18:=hA.get 18 rfl; have ef:∀ f,a'.eval (.func f)=.func (.func f) #[] #[]:=fun _=>rfl; have ec:∀ v,a'.eval (.const v)=v:=fun _=>rfl; clear hA; generalize a'.eval=ρ at *; simp [go_sem,ef,ec,e12,e13,e14,e18]) DC.out (by rintro w' ⟨h,_⟩; cases h) ?_ ?_)
   ·rintro ch w' ⟨h,_⟩
    cases h
   rintro v w7 ⟨h,hb7⟩;have h:=Ending.returned.inj h;subst h;have hz6:(w5.alloc (.cells #[.int .i64 yk,.int .i64 ym,.int .i64 yf,.int .i64 yt,.slice ynp ynn ync,.slice ykp ykn ykc,.int .i64 zk,.int .i64 zm,.int .i64 zf,.int .i64 zt,.slice znp znn znc,.slice zkp zkn zkc] 96)).heap.size=w5.heap.size+1:=by simp
   refine fun hF2=>⟨fun _=>(hb7.block b4 (by omega)).trans ry,?_⟩
   clear hF;have hF:=hF2;clear hF2;have hown:=dB (n:=2) (size:=6) (w:=w7) (base:=w.heap.size+1) ((hb7.block _ (Array.getElem?_eq_some_iff.1 Rl.out).1).trans Rl.out) hk5 rfl (by unfold maxLen; omega);have hK:Kids (w.heap.size+1) (.slice (some ⟨w5.heap.size,0,none⟩) 2 2) w7 [(Br.mk ⟨yk,ym,yf,yt,ynp,ynn,ync,yns,ykp,ykn,ykc⟩ yks),(Br.mk ⟨zk,zm,zf,zt,znp,znn,znc,zns,zkp,zkn,zkc⟩ zks)]:=fun u hu=>by
    rcases List.mem_cons.1 hu with rfl | hu
    ·exact ⟨Rq.out.step _ hb7,Rw.out.mono (fun q hq=>⟨hq.1,fun e=>hq.2 e⟩) _⟩
    ·obtain rfl:=List.mem_singleton.1 hu
     exact ⟨Ru.out.step _ hb7,XN.out.mono (fun q hq=>⟨hq.1,fun e=>hq.2 e⟩) _⟩
   have HL:=bM (w0:=w) (w1:=w) (N:=w.heap.size+1) kd 0 fr n5 (fK (w:=w7)) hown hK;have FIN:=hid (bH (o:=tot) (node kd fr n5 [] [Br.pb (Br.mk ⟨yk,ym,yf,yt,ynp,ynn,ync,yns,ykp,ykn,ykc⟩ yks),Br.pb (Br.mk ⟨zk,zm,zf,zt,znp,znn,znc,zns,zkp,zkn,zkc⟩ zks)]) kd 0 fr n5 none 0 0 _ (some ⟨w5.heap.size,0,none⟩) 2 2 [(Br.mk ⟨yk,ym,yf,yt,ynp,ynn,ync,yns,ykp,ykn,ykc⟩ yks),(Br.mk ⟨zk,zm,zf,zt,znp,znn,znc,zns,zkp,zkn,zkc⟩ zks)] (qm.out.step hb7) (ae Ac.out (grown_below hb7 _)) hgl aW DU.out HL.1 HL.2 (by simp [Br.pb,pbs,node]));refine au 8 (by kernel_rfl) (dC 8 (oi:=⟨none,.store 96 (.tmp 6) (.tmp 19),0,"terms.go:43",#[⟨7,.data⟩,⟨7,.chain⟩,⟨0,.phase⟩,⟨1,.phase⟩,⟨2,.phase⟩,⟨3,.phase⟩,⟨4,.phase⟩,⟨5,.phase⟩,⟨6,.phase⟩,⟨7,.phase⟩],none⟩) (w':=((((((w7.setCell ⟨w.heap.size,0,none⟩ (.int .i64 kd)).setCell ⟨w.heap.size,1,none⟩ (.int .i64 0)).setCell ⟨w.heap.size,2,none⟩ (.int .i64 (fr:Int))).setCell ⟨w.heap.size,3,none⟩ (.int .i64 (n5:Int))).setCell ⟨w.heap.size,4,none⟩ (.slice none 0 0)).setCell ⟨w.heap.size,5,none⟩ (.slice (some ⟨w5.heap.size,0,none⟩) 2 2))) hF rfl rfl (fun a' hA=>ag rfl) (fun a' hA=>?_) ?_)
   ·have e3:=hA.get 6 rfl
    have e15:=hA.get 19 rfl;obtain ⟨c0,c1,c2,c3,c4,c5,f0,f1,f2,f3,f4,f5⟩:=FIN.out.al;clear hA hF;generalize a'.eval=ρ at *
    simp [go_sem,e3,e15,c0,c1,c2,c3,c4,c5,f0,f1,f2,f3,f4,f5]
   refine ⟨fun h=>absurd h (by decide),?_⟩
   refine bu (by kernel_rfl) ?_ _
   subst ha0;simp only [Act.put,List.setIfInBounds_toArray,List.set_cons_zero,List.set_cons_succ];clear HL hown hK hb7 ry nM hb6 pG hg5 hco hzl Qv hzp hF hS
   go_wp2_with fail
   obtain ⟨_,_,_,_,_,_,_,d0,d1,d2,d3,d4,d5,hfin⟩:=FIN.out;refine bodyPost_ret (by simp [results,results273,go_sem,d0,d1,d2,d3,d4,d5,Result.andThen]; try rfl) rfl ?_
   exact hfin
  ·exact ⟨rfl,Or.inr ⟨ch,by rw [iw.out]; exact ai ho,rfl,ae (grown_below ((Below.refl _ _).alloc (Nat.le_refl _) _) _) (ae iQ.out hg4)⟩⟩
 ·exact ⟨rfl,Or.inr ⟨ch,by rw [dW.out]; exact ai ho,rfl,ae (grown_below ((Below.refl _ _).alloc (Nat.le_refl _) _) _) hg2⟩⟩
set_option maxHeartbeats 2000000 in
theorem O6 (S:Src) (rec:Nt→Nat→Nat→Out Pb) (d:Nat) (hs:Said S rec d) (n:Nat) (w:World) (h:Rd w S n d) (aG:yU S rec d n≠.dry) :
  Calls prog 272 #[.pointer (some ⟨S.g,0,none⟩)] w fun e w'=>Ends S d w (yU S rec d n) (RB w) e w':=by
 have hgl:=h.lt;have aW:=h.row;have hb1:Below w.heap.size w (w.alloc aH):=(Below.refl w.heap.size w).alloc (Nat.le_refl _) _;have hr1:=h.step hb1;have q2:=hr1.c2;unfold yU at aG ⊢;have HT:=hid (vV S rec d hs 33 n n _ hr1 aG);have hz3:w.heap.size+1≤(w.alloc aH).heap.size:=by simp
 clear hr1 hb1 h aG
 go_enter func272,ntmps272
 go_wp2_with fail
 refine HT.out.mono ?_
 rintro e w4 (⟨b,n4,v,hpo,rfl,⟨y,rfl,hyl,hyo,hyp⟩,hr4,hg4⟩ | ⟨ch,ho,rfl,hg4⟩)
 ·obtain ⟨⟨yk,ym,yf,yt,ynp,ynn,ync,yns,ykp,ykn,ykc⟩,yks⟩:=y
  have FIN:=hid (bH (o:=gy S rec d 33 n n) b yk ym yf yt ynp ynn ync yns ykp ykn ykc yks hr4 hg4 hgl aW hpo hyl (hyo.mono (fun q hq=>by simpa using hq) _) hyp);clear hpo hyl hyo hyp hr4 hg4;simp only [Hd.val,Br.h] at *;obtain ⟨c0,c1,c2,c3,c4,c5,f0,f1,f2,f3,f4,f5⟩:=FIN.out.al
  go_wp2_with fail
  obtain ⟨_,_,_,_,_,_,_,d0,d1,d2,d3,d4,d5,hfin⟩:=FIN.out;refine bodyPost_ret (by simp [results,results272,go_sem,d0,d1,d2,d3,d4,d5,Result.andThen]; try rfl) rfl ?_
  exact hfin
 ·exact ⟨rfl,Or.inr ⟨ch,ho,rfl,ae (grown_below ((Below.refl _ _).alloc (Nat.le_refl _) _) _) hg4⟩⟩
theorem WT (args:Array Value) (w:World):Sem.run prog (callFunc 272 args) w=.ok (.enter 272 args) w:=aV func272 (by kernel_rfl) (by kernel_rfl) args w
set_option maxHeartbeats 4000000 in
theorem Oa (S:Src) (F:Nat) (rec:Nt→Nat→Nat→Out Pb) (d:Nat) (hs:Said S rec d) (jo:F≤1000000000) (bx:Nat) (n:Nat) (w:World) (h:Rd w S n d) (hx0:w.heap[bx]?=some (.cells #[.pointer (some ⟨S.g,0,none⟩)] 143 (0,0))) (hg0:bx≠S.g)
  (hI:∀ k w',Rd w' S k d→iK S F rec d k≠.dry→Calls prog 274 #[.pointer (some ⟨S.g,0,none⟩)] w' fun e w''=>Ends S d w' (iK S F rec d k) (RB w') e w'') (aG:qE S F rec d n≠.dry) :
  Calls prog 271 #[.int .i64 (n:Int),.pointer (some ⟨bx,0,none⟩)] w fun e w'=>Ends S d w (qE S F rec d n) (RB w) e w':=by
 have hgl:=h.lt;have aW:=h.row;have hbd:=h.bound;have ST0:=hid (St.init h [(bx,Obj.cells #[.pointer (some ⟨S.g,0,none⟩)] 143 (0,0))] (fun p hp=>by
  obtain rfl:=List.mem_singleton.1 hp;exact ⟨hx0,hg0⟩))
 have HS:=hid hs;have HIX:=hid hI;obtain ⟨tot,htot⟩:∃ tot,tot=qE S F rec d n:=⟨_,rfl⟩
 have HD:Hid (tot≠.dry):=hid (by rw [htot]; exact aG);rw [← htot];unfold qE at htot;have EQ0:=hid htot;clear h aG htot hs hI hx0 hg0
 cases hif:S.is n [105,102]
 ·have e2:=EQ0.out
  simp only [hif,cond_false] at e2;have EQ2:=hid e2;clear e2 EQ0
  cases hcase:S.is n [99,97,115,101]
  ·have e3:=EQ2.out
   simp only [hcase,cond_false] at e3;have EQ3:=hid e3;clear e3 EQ2
   cases hfn:S.is n [102,110]
   ·have e4:=EQ3.out
    simp only [hfn,cond_false] at e4;have EQ4:=hid e4;clear e4 EQ3
    go_enter func271,ntmps271
    have qx0:=ST0.out.xc (b:=bx) (v:=.pointer (some ⟨S.g,0,none⟩)) (T:=143) (by simp);have HP:=hid (aC S (n) d ⟨#[105,102]⟩ _ ST0.out.rd (by simp));simp only [hif,cond_true,cond_false] at HP
    go_wp2_with fail
    refine HP.out.mono ?_
    rintro e w5 ⟨rfl,hr,hg⟩;have ST6:=hid (ST0.out.grow hr hg);clear hr hg ST0 HP;clear qx0;have qx0:=ST6.out.xc (b:=bx) (v:=.pointer (some ⟨S.g,0,none⟩)) (T:=143) (by simp);have HP:=hid (aC S (n) d ⟨#[99,97,115,101]⟩ _ ST6.out.rd (by simp));simp only [hcase,cond_true,cond_false] at HP
    go_wp2_with fail
    refine HP.out.mono ?_
    rintro e w7 ⟨rfl,hr,hg⟩;have ST8:=hid (ST6.out.grow hr hg);clear hr hg ST6 HP;clear qx0;have qx0:=ST8.out.xc (b:=bx) (v:=.pointer (some ⟨S.g,0,none⟩)) (T:=143) (by simp);have HP:=hid (aC S (n) d ⟨#[102,110]⟩ _ ST8.out.rd (by simp));simp only [hfn,cond_true,cond_false] at HP
    go_wp2_with fail
    refine HP.out.mono ?_
    rintro e w9 ⟨rfl,hr,hg⟩;have ST10:=hid (ST8.out.grow hr hg);clear hr hg ST8 HP;clear qx0;have qx0:=ST10.out.xc (b:=bx) (v:=.pointer (some ⟨S.g,0,none⟩)) (T:=143) (by simp);have HC:=hid (HIX.out ((n)) _ ST10.out.rd (by rw [← EQ4.out]; exact HD.out))
    go_wp2_with fail
    refine HC.out.mono ?_
    rintro e w11 (⟨x11,n11,v11,hpo,rfl,⟨y11,hv,hyl,hyo,rfl⟩,hr,hg⟩ | ⟨ch,ho,rfl,hg⟩)
    rotate_left
    ·exact ⟨rfl,Or.inr ⟨ch,by rw [EQ4.out]; exact ho,rfl,ST10.out.pan hg⟩⟩
    have EQ12:=hid (EQ4.out.trans hpo);clear EQ4;have jV:=hid (And.intro hyl (hyo.mono (fun q hq=>Nat.le_trans ST10.out.size hq) _));simp only [Hd.val] at hv;subst hv;have ST13:=hid (ST10.out.grow hr hg);clear hr hg ST10 hyl hyo hpo HC;clear qx0;have qx0:=ST13.out.xc (b:=bx) (v:=.pointer (some ⟨S.g,0,none⟩)) (T:=143) (by simp);have FIN:=hid (ST13.out.finY hgl aW jV.out.1 jV.out.2 EQ12.out);clear ST13 jV EQ12;clear qx0;obtain ⟨c0,c1,c2,c3,c4,c5,f0,f1,f2,f3,f4,f5⟩:=FIN.out.al
    go_wp2_with fail
    obtain ⟨_,_,_,_,_,_,_,d0,d1,d2,d3,d4,d5,hfin⟩:=FIN.out;refine bodyPost_ret (by simp [results,results271,go_sem,d0,d1,d2,d3,d4,d5,Result.andThen]; try rfl) rfl ?_
    exact hfin
   ·have e4:=EQ3.out
    simp only [hfn,cond_true] at e4;have EQ4:=hid e4;clear e4 EQ3
    go_enter func271,ntmps271
    have qx0:=ST0.out.xc (b:=bx) (v:=.pointer (some ⟨S.g,0,none⟩)) (T:=143) (by simp);have HP:=hid (aC S (n) d ⟨#[105,102]⟩ _ ST0.out.rd (by simp));simp only [hif,cond_true,cond_false] at HP
    go_wp2_with fail
    refine HP.out.mono ?_
    rintro e w5 ⟨rfl,hr,hg⟩;have ST6:=hid (ST0.out.grow hr hg);clear hr hg ST0 HP;clear qx0;have qx0:=ST6.out.xc (b:=bx) (v:=.pointer (some ⟨S.g,0,none⟩)) (T:=143) (by simp);have HP:=hid (aC S (n) d ⟨#[99,97,115,101]⟩ _ ST6.out.rd (by simp));simp only [hcase,cond_true,cond_false] at HP
    go_wp2_with fail
    refine HP.out.mono ?_
    rintro e w7 ⟨rfl,hr,hg⟩;have ST8:=hid (ST6.out.grow hr hg);clear hr hg ST6 HP;clear qx0;have qx0:=ST8.out.xc (b:=bx) (v:=.pointer (some ⟨S.g,0,none⟩)) (T:=143) (by simp);have HP:=hid (aC S (n) d ⟨#[102,110]⟩ _ ST8.out.rd (by simp));simp only [hfn,cond_true,cond_false] at HP
    go_wp2_with fail
    refine HP.out.mono ?_
    rintro e w9 ⟨rfl,hr,hg⟩;have ST10:=hid (ST8.out.grow hr hg);clear hr hg ST8 HP;clear qx0;have qx0:=ST10.out.xc (b:=bx) (v:=.pointer (some ⟨S.g,0,none⟩)) (T:=143) (by simp);have HC:=hid (vV S rec d HS.out 34 n ((n+1)) _ ST10.out.rd (by rw [← EQ4.out]; exact HD.out))
    go_wp2_with fail
    refine HC.out.mono ?_
    rintro e w11 (⟨x11,n11,v11,hpo,rfl,⟨y11,hv,hyl,hyo,rfl⟩,hr,hg⟩ | ⟨ch,ho,rfl,hg⟩)
    rotate_left
    ·exact ⟨rfl,Or.inr ⟨ch,by rw [EQ4.out]; exact ho,rfl,ST10.out.pan hg⟩⟩
    have EQ12:=hid (EQ4.out.trans hpo);clear EQ4;have jV:=hid (And.intro hyl (hyo.mono (fun q hq=>Nat.le_trans ST10.out.size hq) _));simp only [Hd.val] at hv;subst hv;have ST13:=hid (ST10.out.grow hr hg);clear hr hg ST10 hyl hyo hpo HC;clear qx0;have qx0:=ST13.out.xc (b:=bx) (v:=.pointer (some ⟨S.g,0,none⟩)) (T:=143) (by simp);have FIN:=hid (ST13.out.finY hgl aW jV.out.1 jV.out.2 EQ12.out);clear ST13 jV EQ12;clear qx0;obtain ⟨c0,c1,c2,c3,c4,c5,f0,f1,f2,f3,f4,f5⟩:=FIN.out.al
    go_wp2_with fail
    obtain ⟨_,_,_,_,_,_,_,d0,d1,d2,d3,d4,d5,hfin⟩:=FIN.out;refine bodyPost_ret (by simp [results,results271,go_sem,d0,d1,d2,d3,d4,d5,Result.andThen]; try rfl) rfl ?_
    exact hfin
  ·have e3:=EQ2.out
   simp only [hcase,cond_true] at e3;have EQ3:=hid e3;clear e3 EQ2
   go_enter func271,ntmps271
   have qx0:=ST0.out.xc (b:=bx) (v:=.pointer (some ⟨S.g,0,none⟩)) (T:=143) (by simp);have HP:=hid (aC S (n) d ⟨#[105,102]⟩ _ ST0.out.rd (by simp));simp only [hif,cond_true,cond_false] at HP
   go_wp2_with fail
   refine HP.out.mono ?_
   rintro e w4 ⟨rfl,hr,hg⟩;have ST5:=hid (ST0.out.grow hr hg);clear hr hg ST0 HP;clear qx0;have qx0:=ST5.out.xc (b:=bx) (v:=.pointer (some ⟨S.g,0,none⟩)) (T:=143) (by simp);have HP:=hid (aC S (n) d ⟨#[99,97,115,101]⟩ _ ST5.out.rd (by simp));simp only [hcase,cond_true,cond_false] at HP
   go_wp2_with fail
   refine HP.out.mono ?_
   rintro e w6 ⟨rfl,hr,hg⟩;have ST7:=hid (ST5.out.grow hr hg);clear hr hg ST5 HP;clear qx0;have qx0:=ST7.out.xc (b:=bx) (v:=.pointer (some ⟨S.g,0,none⟩)) (T:=143) (by simp);have HC:=hid (HS.out.exp ((n+1)) _ ST7.out.rd (aA (by rw [← EQ3.out]; exact HD.out)))
   go_wp2_with fail
   refine HC.out.mono ?_
   rintro e w8 (⟨x8,n8,v8,hpo,rfl,⟨y8,hv,hyl,hyo,rfl⟩,hr,hg⟩ | ⟨ch,ho,rfl,hg⟩)
   rotate_left
   ·exact ⟨rfl,Or.inr ⟨ch,by rw [EQ3.out]; exact ai (ho),rfl,ST7.out.pan hg⟩⟩
   have e9:=EQ3.out;rw [show _=Out.ok _ _ from hpo,bind_ok] at e9;have EQ9:=hid e9;clear e9 EQ3;have zU:=hid (And.intro hyl (hyo.mono (fun q hq=>Nat.le_trans ST7.out.size hq) _));simp only [Hd.val] at hv;subst hv;have ST10:=hid (ST7.out.grow hr hg);clear hr hg ST7 hyl hyo hpo HC;clear qx0;have qx0:=ST10.out.xc (b:=bx) (v:=.pointer (some ⟨S.g,0,none⟩)) (T:=143) (by simp);have QE:∀ u ∈ [y8],u.Lies w8∧u.On (fun q=>(w.alloc aH).heap.size≤q):=(List.forall_mem_cons.2 ⟨zU.out,(fun _ h=>nomatch h)⟩)
   have ST11:Hid (St S _ d _ (w8.alloc (.cells #[.int .i64 y8.h.k,.int .i64 y8.h.m,.int .i64 y8.h.f,.int .i64 y8.h.t,.slice y8.h.np y8.h.nn y8.h.nc,.slice y8.h.kp y8.h.kn y8.h.kc] 96)) _):=hid (ST10.out.newK [y8] (by simp) QE);clear QE;clear qx0;have qx0:=ST11.out.xc (b:=bx) (v:=.pointer (some ⟨S.g,0,none⟩)) (T:=143) (by simp);have HC:=hid (bF S ((n8)) d ⟨#[111,102]⟩ _ ST11.out.rd (by simp))
   go_wp2_with fail
   refine HC.out.mono ?_
   rintro e w12 (⟨x12,n12,v12,hpo,rfl,hv,hr,hg⟩ | ⟨ch,ho,rfl,hg⟩)
   rotate_left
   ·exact ⟨rfl,Or.inr ⟨ch,by rw [EQ9.out]; exact ai (ho),rfl,ST11.out.pan hg⟩⟩
   have e13:=EQ9.out;rw [show _=Out.ok _ _ from hpo,bind_ok] at e13;have EQ13:=hid e13;clear e13 EQ9;obtain rfl:v12=.tuple #[]:=hv;have ST14:=hid (ST11.out.grow hr hg);clear hr hg ST11 hpo HC;clear qx0;have qx0:=ST14.out.xc (b:=bx) (v:=.pointer (some ⟨S.g,0,none⟩)) (T:=143) (by simp);have HC:=hid (kH 272 #[] WT S F ((n12)) d ⟨#[124]⟩ (yU S rec d) _ ST14.out.rd (by simp) jo (fun k w' hr hg hnd=>O6 S rec d HS.out k w' hr hnd) (aA (by rw [← EQ13.out]; exact HD.out)))
   go_wp2_with fail
   refine HC.out.mono ?_
   rintro e w15 (⟨x15,n15,v15,hpo,rfl,⟨y15,hown,kP,rfl⟩,hr,hg⟩ | ⟨ch,ho,rfl,hg⟩)
   rotate_left
   ·exact ⟨rfl,Or.inr ⟨ch,by rw [EQ13.out]; exact ai (ho),rfl,ST14.out.pan hg⟩⟩
   have e16:=EQ13.out;rw [show _=Out.ok _ _ from hpo,bind_ok] at e16;have EQ16:=hid e16;clear e16 EQ13;have hz:=ST14.out.size;have ho:=own_base hown hz;have hkk:=kP.base hz;have hln:=NT hpo;simp only [List.length_map] at hln;obtain ⟨p15,c15,Ot,_⟩:=iJ hown (by omega);subst Ot;have G9:=hid (uD (ST14.out.ks (.slice (some ⟨w8.heap.size,0,none⟩) 1 1,[y8]) (by simp)).1 hz kP);have ST17:=hid ((ST14.out.grow hr hg).addK ho hkk);clear hr hg ST14 hown kP ho hkk hz hpo HC;clear qx0;have qx0:=ST17.out.xc (b:=bx) (v:=.pointer (some ⟨S.g,0,none⟩)) (T:=143) (by simp);have Qx:=hid (BD (ST17.out.ks (.slice (some ⟨p15,0,none⟩) y15.length c15,y15) (by simp)).1)
   go_wp2_with (at_builtin; refine dY rfl _ _ rfl ST17 (.slice (some ⟨w8.heap.size,0,none⟩) 1 1) [y8] y15 (by simp) 1 y15.length c15 rfl rfl ⟨p15,0,none⟩ rfl rfl Qx.out G9.out (by omega) (by omega) ?_)
   intro g18 c18 w18 ST18;clear Qx G9 ST17 hln;generalize 1+y15.length=nl18 at *;clear qx0;have qx0:=ST18.out.xc (b:=bx) (v:=.pointer (some ⟨S.g,0,none⟩)) (T:=143) (by simp);have HB:=hid (az S (n15) d 32 (n:Nat) none 0 0 (some ⟨g18,0,none⟩) nl18 c18 _ ST18.out.rd)
   go_wp2_with fail
   refine HB.out.mono ?_
   rintro e w19 ⟨rfl,hb⟩;have ST20:=hid (ST18.out.below hb);clear hb ST18 HB;clear qx0;have qx0:=ST20.out.xc (b:=bx) (v:=.pointer (some ⟨S.g,0,none⟩)) (T:=143) (by simp);have FIN:=hid (ST20.out.fin (k:=32) (m:=0) (f:=n) hgl aW St.noN (ST20.out.ks (.slice (some ⟨g18,0,none⟩) nl18 c18,([y8]++y15)) (by simp)) EQ16.out);clear ST20 EQ16;clear qx0;obtain ⟨c0,c1,c2,c3,c4,c5,f0,f1,f2,f3,f4,f5⟩:=FIN.out.al
   go_wp2_with fail
   obtain ⟨_,_,_,_,_,_,_,d0,d1,d2,d3,d4,d5,hfin⟩:=FIN.out;refine bodyPost_ret (by simp [results,results271,go_sem,d0,d1,d2,d3,d4,d5,Result.andThen]; try rfl) rfl ?_
   exact hfin
 ·have e2:=EQ0.out
  simp only [hif,cond_true] at e2;have EQ2:=hid e2;clear e2 EQ0
  go_enter func271,ntmps271
  have qx0:=ST0.out.xc (b:=bx) (v:=.pointer (some ⟨S.g,0,none⟩)) (T:=143) (by simp);have HP:=hid (aC S (n) d ⟨#[105,102]⟩ _ ST0.out.rd (by simp));simp only [hif,cond_true,cond_false] at HP
  go_wp2_with fail
  refine HP.out.mono ?_
  rintro e w3 ⟨rfl,hr,hg⟩;have ST4:=hid (ST0.out.grow hr hg);clear hr hg ST0 HP;clear qx0;have qx0:=ST4.out.xc (b:=bx) (v:=.pointer (some ⟨S.g,0,none⟩)) (T:=143) (by simp);have HC:=hid (HS.out.exp ((n+1)) _ ST4.out.rd (aA (by rw [← EQ2.out]; exact HD.out)))
  go_wp2_with fail
  refine HC.out.mono ?_
  rintro e w5 (⟨x5,n5,v5,hpo,rfl,⟨y5,hv,hyl,hyo,rfl⟩,hr,hg⟩ | ⟨ch,ho,rfl,hg⟩)
  rotate_left
  ·exact ⟨rfl,Or.inr ⟨ch,by rw [EQ2.out]; exact ai (ho),rfl,ST4.out.pan hg⟩⟩
  have e6:=EQ2.out;rw [show _=Out.ok _ _ from hpo,bind_ok] at e6;have EQ6:=hid e6;clear e6 EQ2;have Oq:=hid (And.intro hyl (hyo.mono (fun q hq=>Nat.le_trans ST4.out.size hq) _));simp only [Hd.val] at hv;subst hv;have ST7:=hid (ST4.out.grow hr hg);clear hr hg ST4 hyl hyo hpo HC;clear qx0;have qx0:=ST7.out.xc (b:=bx) (v:=.pointer (some ⟨S.g,0,none⟩)) (T:=143) (by simp);have hbx:=ST7.out.box Oq.out.1 Oq.out.2;have hsz:=ST7.out.size;have hlt:=ST7.out.lt;have hn1:¬ S.g=w5.heap.size:=by omega
  have hn2:¬ w5.heap.size=S.g:=by omega
  have hrb:=heap_alloc_new w5 aH;have qq:=cell_of_heap hrb;have r0:=qq 0;have r1:=qq 1;have r2:=qq 2;have r3:=qq 3;have r4:=qq 4;have r5:=qq 5;simp only [List.getElem?_toArray,List.getElem?_cons_zero,List.getElem?_cons_succ,aH] at r0 r1 r2 r3 r4 r5;have fz:∀ i,(w5.alloc aH).frozen? ⟨w5.heap.size,i,none⟩=false:=fun i=>ay hrb i
  have f0:=fz 0;have f1:=fz 1;have f2:=fz 2;have f3:=fz 3;have f4:=fz 4;have f5:=fz 5;have hm0:¬ bx=w5.heap.size:=by have:=ST7.out.xlt (b:=bx) (v:=.pointer (some ⟨S.g,0,none⟩)) (T:=143) (by simp); omega
  have hw0:¬ w5.heap.size=bx:=fun e=>hm0 e.symm
  have qa0:=(ST7.out.below ((Below.refl w5.heap.size w5).alloc (Nat.le_refl _) aH)).xc (b:=bx) (v:=.pointer (some ⟨S.g,0,none⟩)) (T:=143) (by simp);have qb0:=hbx.xc (b:=bx) (v:=.pointer (some ⟨S.g,0,none⟩)) (T:=143) (by simp);have STx:=hid hbx;clear hbx hrb qq fz hsz hlt ST7 qx0 Oq
  rename_i K1 hK1 K0 hK0
  show K0 _ _
  refine hK0 _ _ ?_
  refine wpList_step fun K2 hK2=>?_
  rw [if_pos (ag rfl)];unfold Oper.wp;have hrun:∀ a:Act,(execOp a.eval ⟨some 4,.alloc 96,0,"terms.go:19",#[],none⟩).run prog w5=.ok (.value (.pointer (some ⟨w5.heap.size,0,none⟩))) (w5.alloc aH):=fun a=>by
   generalize a.eval=ρ
   simp [go_sem]
   try rfl
  rw [hrun,Oper.upon_value];refine hK2 _ _ ?_
  clear hrun hK2 hK0;simp only [Act.put,List.setIfInBounds_toArray,List.set_cons_zero,List.set_cons_succ] at *;generalize hb8:w5.heap.size=b8 at *;generalize w5.alloc aH=A8 at *;clear hb8;have HC:=hid (bF S ((n5)) d ⟨#[116,104,101,110]⟩ _ STx.out.rd (by simp))
  go_wp2_with fail
  refine HC.out.mono ?_
  rintro e w9 (⟨x9,n9,v9,hpo,rfl,hv,hr,hg⟩ | ⟨ch,ho,rfl,hg⟩)
  rotate_left
  ·exact ⟨rfl,Or.inr ⟨ch,by rw [EQ6.out]; exact ai (ho),rfl,STx.out.pan hg⟩⟩
  have e10:=EQ6.out;rw [show _=Out.ok _ _ from hpo,bind_ok] at e10;have EQ10:=hid e10;clear e10 EQ6;obtain rfl:v9=.tuple #[]:=hv;have ST11:=hid (STx.out.grow hr hg);clear hr hg STx hpo HC;clear r0 r1 r2 r3 r4 r5 f0 f1 f2 f3 f4 f5 hn1 hn2 hm0 hw0 qa0 qb0;have qx0:=ST11.out.xc (b:=bx) (v:=.pointer (some ⟨S.g,0,none⟩)) (T:=143) (by simp);have HC:=hid (HS.out.exp ((n9)) _ ST11.out.rd (aA (by rw [← EQ10.out]; exact HD.out)))
  go_wp2_with fail
  refine HC.out.mono ?_
  rintro e w12 (⟨x12,n12,v12,hpo,rfl,⟨y12,hv,hyl,hyo,rfl⟩,hr,hg⟩ | ⟨ch,ho,rfl,hg⟩)
  rotate_left
  ·exact ⟨rfl,Or.inr ⟨ch,by rw [EQ10.out]; exact ai (ho),rfl,ST11.out.pan hg⟩⟩
  have e13:=EQ10.out;rw [show _=Out.ok _ _ from hpo,bind_ok] at e13;have EQ13:=hid e13;clear e13 EQ10;have mG:=hid (And.intro hyl (hyo.mono (fun q hq=>Nat.le_trans ST11.out.size hq) _));simp only [Hd.val] at hv;subst hv;have ST14:=hid (ST11.out.grow hr hg);clear hr hg ST11 hyl hyo hpo HC;clear qx0;have qx0:=ST14.out.xc (b:=bx) (v:=.pointer (some ⟨S.g,0,none⟩)) (T:=143) (by simp);have hbx:=ST14.out.box mG.out.1 mG.out.2;have hsz:=ST14.out.size;have hlt:=ST14.out.lt;have hn1:¬ S.g=w12.heap.size:=by omega
  have hn2:¬ w12.heap.size=S.g:=by omega
  have hrb:=heap_alloc_new w12 aH;have qq:=cell_of_heap hrb;have r0:=qq 0;have r1:=qq 1;have r2:=qq 2;have r3:=qq 3;have r4:=qq 4;have r5:=qq 5;simp only [List.getElem?_toArray,List.getElem?_cons_zero,List.getElem?_cons_succ,aH] at r0 r1 r2 r3 r4 r5;have fz:∀ i,(w12.alloc aH).frozen? ⟨w12.heap.size,i,none⟩=false:=fun i=>ay hrb i
  have f0:=fz 0;have f1:=fz 1;have f2:=fz 2;have f3:=fz 3;have f4:=fz 4;have f5:=fz 5;have hm0:¬ bx=w12.heap.size:=by have:=ST14.out.xlt (b:=bx) (v:=.pointer (some ⟨S.g,0,none⟩)) (T:=143) (by simp); omega
  have hw0:¬ w12.heap.size=bx:=fun e=>hm0 e.symm
  have qa0:=(ST14.out.below ((Below.refl w12.heap.size w12).alloc (Nat.le_refl _) aH)).xc (b:=bx) (v:=.pointer (some ⟨S.g,0,none⟩)) (T:=143) (by simp);have qb0:=hbx.xc (b:=bx) (v:=.pointer (some ⟨S.g,0,none⟩)) (T:=143) (by simp);have STx:=hid hbx;clear hbx hrb qq fz hsz hlt ST14 qx0 mG
  rename_i K1 hK1 K0 hK0
  show K0 _ _
  refine hK0 _ _ ?_
  refine wpList_step fun K2 hK2=>?_
  rw [if_pos (ag rfl)];unfold Oper.wp;have hrun:∀ a:Act,(execOp a.eval ⟨some 5,.alloc 96,0,"terms.go:21",#[],none⟩).run prog w12=.ok (.value (.pointer (some ⟨w12.heap.size,0,none⟩))) (w12.alloc aH):=fun a=>by
   generalize a.eval=ρ
   simp [go_sem]
   try rfl
  rw [hrun,Oper.upon_value];refine hK2 _ _ ?_
  clear hrun hK2 hK0;simp only [Act.put,List.setIfInBounds_toArray,List.set_cons_zero,List.set_cons_succ] at *;generalize He:w12.heap.size=b15 at *;generalize w12.alloc aH=A15 at *;clear He;have HC:=hid (bF S ((n12)) d ⟨#[101,108,115,101]⟩ _ STx.out.rd (by simp))
  go_wp2_with fail
  refine HC.out.mono ?_
  rintro e w16 (⟨x16,n16,v16,hpo,rfl,hv,hr,hg⟩ | ⟨ch,ho,rfl,hg⟩)
  rotate_left
  ·exact ⟨rfl,Or.inr ⟨ch,by rw [EQ13.out]; exact ai (ho),rfl,STx.out.pan hg⟩⟩
  have e17:=EQ13.out;rw [show _=Out.ok _ _ from hpo,bind_ok] at e17;have EQ17:=hid e17;clear e17 EQ13;obtain rfl:v16=.tuple #[]:=hv;have ST18:=hid (STx.out.grow hr hg);clear hr hg STx hpo HC;clear r0 r1 r2 r3 r4 r5 f0 f1 f2 f3 f4 f5 hn1 hn2 hm0 hw0 qa0 qb0;have qx0:=ST18.out.xc (b:=bx) (v:=.pointer (some ⟨S.g,0,none⟩)) (T:=143) (by simp)
  go_wp2_with fail
  refine aY (fun W:World=>W.heap[bx]?=some (.cells #[.pointer (some ⟨S.g,0,none⟩)] 143 (0,0))∧W.heap[b15]?=some (.cells #[.int .i64 y12.h.k,.int .i64 y12.h.m,.int .i64 y12.h.f,.int .i64 y12.h.t,.slice y12.h.np y12.h.nn y12.h.nc,.slice y12.h.kp y12.h.kn y12.h.kc] 96 (0,0))∧W.heap[b8]?=some (.cells #[.int .i64 y5.h.k,.int .i64 y5.h.m,.int .i64 y5.h.f,.int .i64 y5.h.t,.slice y5.h.np y5.h.nn y5.h.nc,.slice y5.h.kp y5.h.kn y5.h.kc] 96 (0,0))) 8 (by kernel_rfl) ?_
  have STd:=hid (ST18.out.below (Below.refl w16.heap.size w16).drew);refine dL (N:=50) [(0,.int .i64 (n:Int)),(1,.pointer (some ⟨bx,0,none⟩)),(3,.pointer (some ⟨w.heap.size,0,none⟩)),(4,.pointer (some ⟨b8,0,none⟩)),(5,.pointer (some ⟨b15,0,none⟩))] (Fs.of rfl rfl (by simp [Act.eval])) ?_
  intro a0 ha0 hF;clear ST18 qx0;generalize w16.drew=w19 at *;have hS:(fun W:World=>W.heap[bx]?=some (.cells #[.pointer (some ⟨S.g,0,none⟩)] 143 (0,0))∧W.heap[b15]?=some (.cells #[.int .i64 y12.h.k,.int .i64 y12.h.m,.int .i64 y12.h.f,.int .i64 y12.h.t,.slice y12.h.np y12.h.nn y12.h.nc,.slice y12.h.kp y12.h.kn y12.h.kc] 96 (0,0))∧W.heap[b8]?=some (.cells #[.int .i64 y5.h.k,.int .i64 y5.h.m,.int .i64 y5.h.f,.int .i64 y5.h.t,.slice y5.h.np y5.h.nn y5.h.nc,.slice y5.h.kp y5.h.kn y5.h.kc] 96 (0,0))) w19:=⟨(STd.out.x (bx,Obj.cells #[.pointer (some ⟨S.g,0,none⟩)] 143 (0,0)) (by simp)).1,(STd.out.b (b15,y12) (by simp)).1,(STd.out.b (b8,y5) (by simp)).1⟩;refine ax 0 [7,8] (oi:=⟨some 18,.load 143 (.tmp 1),143,"terms.go:23",#[],none⟩) (d:=18) (v:=.pointer (some ⟨S.g,0,none⟩)) hF hS rfl rfl (by decide) (by kernel_rfl) (by kernel_rfl) (by kernel_rfl) (by kernel_rfl) (fun _ _ _ h=>h) (fun a' hA=>ag rfl) (fun a' hA w' hw=>by have e1:=hA.get 1 rfl; have ec:∀ v,a'.eval (.const v)=v:=fun _=>rfl; have q0:=cell_of_heap hw.1 0; simp only [List.getElem?_toArray,List.getElem?_cons_zero] at q0; clear hA; generalize a'.eval=ρ at *; simp [go_sem,ec,e1,q0]; try rfl) ?_
  clear hF;intro hF;refine ax 1 [7,8] (oi:=⟨some 19,.move (.tmp 0),3,"terms.go:23",#[],none⟩) (d:=19) (v:=.int .i64 (n:Int)) hF hS rfl rfl (by decide) (by kernel_rfl) (by kernel_rfl) (by kernel_rfl) (by kernel_rfl) (fun _ _ _ h=>h) (fun a' hA=>ag rfl) (aF rfl rfl) ?_
  clear hF;intro hF;refine ax 2 [6,7,8] (oi:=⟨some 20,.load 96 (.tmp 4),96,"terms.go:23",#[],none⟩) (d:=20) (v:=.agg #[.int .i64 y5.h.k,.int .i64 y5.h.m,.int .i64 y5.h.f,.int .i64 y5.h.t,.slice y5.h.np y5.h.nn y5.h.nc,.slice y5.h.kp y5.h.kn y5.h.kc]) hF hS rfl rfl (by decide) (by kernel_rfl) (by kernel_rfl) (by kernel_rfl) (by kernel_rfl) (fun _ _ _ h=>h) (fun a' hA=>ag rfl) (fun a' hA w' hw=>by have e4:=hA.get 4 rfl; have ec:∀ v,a'.eval (.const v)=v:=fun _=>rfl; have qq:=cell_of_heap hw.2.2; have q0:=qq 0; have q1:=qq 1; have q2:=qq 2; have q3:=qq 3; have q4:=qq 4; have q5:=qq 5; simp only [List.getElem?_toArray,List.getElem?_cons_zero,List.getElem?_cons_succ] at q0 q1 q2 q3 q4 q5; clear qq; clear hA; generalize a'.eval=ρ at *; simp [go_sem,ec,e4,q0,q1,q2,q3,q4,q5]; try rfl) ?_
  clear hF;intro hF;refine ax 3 [6,7,8] (oi:=⟨some 21,.load 96 (.tmp 5),96,"terms.go:23",#[],none⟩) (d:=21) (v:=.agg #[.int .i64 y12.h.k,.int .i64 y12.h.m,.int .i64 y12.h.f,.int .i64 y12.h.t,.slice y12.h.np y12.h.nn y12.h.nc,.slice y12.h.kp y12.h.kn y12.h.kc]) hF hS rfl rfl (by decide) (by kernel_rfl) (by kernel_rfl) (by kernel_rfl) (by kernel_rfl) (fun _ _ _ h=>h) (fun a' hA=>ag rfl) (fun a' hA w' hw=>by have e5:=hA.get 5 rfl; have ec:∀ v,a'.eval (.const v)=v:=fun _=>rfl; have qq:=cell_of_heap hw.2.1; have q0:=qq 0; have q1:=qq 1; have q2:=qq 2; have q3:=qq 3; have q4:=qq 4; have q5:=qq 5; simp only [List.getElem?_toArray,List.getElem?_cons_zero,List.getElem?_cons_succ] at q0 q1 q2 q3 q4 q5; clear qq; clear hA; generalize a'.eval=ρ at *; simp [go_sem,ec,e5,q0,q1,q2,q3,q4,q5]; try rfl) ?_
  clear hF;intro hF;refine ax 4 [5,6,7,8] (oi:=⟨some 22,.load 143 (.tmp 1),143,"terms.go:23",#[],none⟩) (d:=22) (v:=.pointer (some ⟨S.g,0,none⟩)) hF hS rfl rfl (by decide) (by kernel_rfl) (by kernel_rfl) (by kernel_rfl) (by kernel_rfl) (fun _ _ _ h=>h) (fun a' hA=>ag rfl) (fun a' hA w' hw=>by have e1:=hA.get 1 rfl; have ec:∀ v,a'.eval (.const v)=v:=fun _=>rfl; have q0:=cell_of_heap hw.1 0; simp only [List.getElem?_toArray,List.getElem?_cons_zero] at q0; clear hA; generalize a'.eval=ρ at *; simp [go_sem,ec,e1,q0]; try rfl) ?_
  clear hF;intro hF;refine au 5 (by kernel_rfl) ?_
  have HT:=hid (HS.out.exp ((n16)) _ STd.out.rd (aA (by rw [← EQ17.out]; exact HD.out)));refine bK 5 (oi:=⟨some 23,.call ⟨.value (.func 232),#[.tmp 22],#[143]⟩,96,"terms.go:23",#[⟨4,.data⟩],none⟩) (d:=23) (R:=fun e w'=>Ends S d w19 (rec .exp d ((n16))) (RB w19) e w') hF rfl rfl (by decide) (fun a' hA=>ag rfl) (fun a' hA=>by have e22:=hA.get 22 rfl; have ef:∀ f,a'.eval (.func f)=.func (.func f) #[] #[]:=fun _=>rfl; have ec:∀ v,a'.eval (.const v)=v:=fun _=>rfl; clear hA; generalize a'.eval=ρ at *; simp [go_sem,ef,ec,e22]) HT.out (fun w'=>Ends.noOut) ?_ ?_
  ·rintro ch w' (⟨_,_,_,_,h2,_⟩ | ⟨ch',ho,h2,hg⟩)
   ·cases h2
   ·have h2:=Ending.panicked.inj h2
    subst h2;have hq:bodyPost prog f271 (fun e w'=>Ends S d w tot (RB w) e w') (.panic ch) _ w':=⟨hF.2.1,Or.inr ⟨ch,by rw [EQ17.out]; exact ai ho,rfl,STd.out.pan hg⟩⟩;exact hq
  rintro v w20 (⟨x20,n20,v20,hpo,h2,⟨y20,hv,hyl,hyo,rfl⟩,hr,hg⟩ | ⟨_,_,h2,_⟩) hF2
  rotate_left
  ·cases h2
  have h2:=Ending.returned.inj h2;subst h2;have e21:=EQ17.out;rw [show _=Out.ok _ _ from hpo,bind_ok] at e21;have EQ21:=hid e21;clear e21 EQ17 hS;have hv2:v=.agg #[.int .i64 y20.h.k,.int .i64 y20.h.m,.int .i64 y20.h.f,.int .i64 y20.h.t,.slice y20.h.np y20.h.nn y20.h.nc,.slice y20.h.kp y20.h.kn y20.h.kc]:=hv;subst hv2;clear hv hF;have hF:=hF2;clear hF2;have Ov:=hid (And.intro hyl (hyo.mono (fun q hq=>Nat.le_trans STd.out.size hq) _));have ST22:=hid (STd.out.grow hr hg);clear hr hg STd hyl hyo hpo HT;have hS:(fun W:World=>W.heap[bx]?=some (.cells #[.pointer (some ⟨S.g,0,none⟩)] 143 (0,0))∧W.heap[b15]?=some (.cells #[.int .i64 y12.h.k,.int .i64 y12.h.m,.int .i64 y12.h.f,.int .i64 y12.h.t,.slice y12.h.np y12.h.nn y12.h.nc,.slice y12.h.kp y12.h.kn y12.h.kc] 96 (0,0))∧W.heap[b8]?=some (.cells #[.int .i64 y5.h.k,.int .i64 y5.h.m,.int .i64 y5.h.f,.int .i64 y5.h.t,.slice y5.h.np y5.h.nn y5.h.nc,.slice y5.h.kp y5.h.kn y5.h.kc] 96 (0,0))) w20:=⟨(ST22.out.x (bx,Obj.cells #[.pointer (some ⟨S.g,0,none⟩)] 143 (0,0)) (by simp)).1,(ST22.out.b (b15,y12) (by simp)).1,(ST22.out.b (b8,y5) (by simp)).1⟩;refine ⟨fun _=>hS,?_⟩
  refine au 6 (by kernel_rfl) ?_
  have hys:∀ u ∈ [y5,y12,y20],u.Lies w20∧u.On (fun q=>(w.alloc aH).heap.size≤q):=(List.forall_mem_cons.2 ⟨(ST22.out.b (b8,y5) (by simp)).2.2,(List.forall_mem_cons.2 ⟨(ST22.out.b (b15,y12) (by simp)).2.2,(List.forall_mem_cons.2 ⟨Ov.out,(fun _ h=>nomatch h)⟩)⟩)⟩)
  have hnew:St S _ d _ (w20.alloc (.cells #[.int .i64 y5.h.k,.int .i64 y5.h.m,.int .i64 y5.h.f,.int .i64 y5.h.t,.slice y5.h.np y5.h.nn y5.h.nc,.slice y5.h.kp y5.h.kn y5.h.kc,.int .i64 y12.h.k,.int .i64 y12.h.m,.int .i64 y12.h.f,.int .i64 y12.h.t,.slice y12.h.np y12.h.nn y12.h.nc,.slice y12.h.kp y12.h.kn y12.h.kc,.int .i64 y20.h.k,.int .i64 y20.h.m,.int .i64 y20.h.f,.int .i64 y20.h.t,.slice y20.h.np y20.h.nn y20.h.nc,.slice y20.h.kp y20.h.kn y20.h.kc] 96)) _:=ST22.out.newK [y5,y12,y20] (by simp) hys;clear hys;have abt:=hid (And.intro (Ov.out.1.step _ ((Below.refl w20.heap.size w20).alloc (Nat.le_refl _) (.cells #[.int .i64 y5.h.k,.int .i64 y5.h.m,.int .i64 y5.h.f,.int .i64 y5.h.t,.slice y5.h.np y5.h.nn y5.h.nc,.slice y5.h.kp y5.h.kn y5.h.kc,.int .i64 y12.h.k,.int .i64 y12.h.m,.int .i64 y12.h.f,.int .i64 y12.h.t,.slice y12.h.np y12.h.nn y12.h.nc,.slice y12.h.kp y12.h.kn y12.h.kc,.int .i64 y20.h.k,.int .i64 y20.h.m,.int .i64 y20.h.f,.int .i64 y20.h.t,.slice y20.h.np y20.h.nn y20.h.nc,.slice y20.h.kp y20.h.kn y20.h.kc] 96))) Ov.out.2);have STn:=hid hnew;clear hnew hS;refine dw 6 (oi:=⟨some 24,.buildSlice 94 3 #[(0,.tmp 20),(1,.tmp 21),(2,.tmp 23)],94,"terms.go:23",#[⟨2,.data⟩,⟨3,.data⟩,⟨5,.data⟩],none⟩) (d:=24) (v:=.slice (some ⟨w20.heap.size,0,none⟩) 3 3) (w':=w20.alloc (.cells #[.int .i64 y5.h.k,.int .i64 y5.h.m,.int .i64 y5.h.f,.int .i64 y5.h.t,.slice y5.h.np y5.h.nn y5.h.nc,.slice y5.h.kp y5.h.kn y5.h.kc,.int .i64 y12.h.k,.int .i64 y12.h.m,.int .i64 y12.h.f,.int .i64 y12.h.t,.slice y12.h.np y12.h.nn y12.h.nc,.slice y12.h.kp y12.h.kn y12.h.kc,.int .i64 y20.h.k,.int .i64 y20.h.m,.int .i64 y20.h.f,.int .i64 y20.h.t,.slice y20.h.np y20.h.nn y20.h.nc,.slice y20.h.kp y20.h.kn y20.h.kc] 96)) hF rfl rfl (by decide) (fun a' hA=>ag rfl) (fun a' hA=>by have e20:=hA.get 20 rfl; have e21:=hA.get 21 rfl; have e23:=hA.get 23 rfl; have ec:∀ v,a'.eval (.const v)=v:=fun _=>rfl; clear hA; generalize a'.eval=ρ at *; simp [go_sem,ec,e20,e21,e23]; try rfl) ?_
  clear hF;intro hF;clear ST22;generalize w20.alloc (.cells #[.int .i64 y5.h.k,.int .i64 y5.h.m,.int .i64 y5.h.f,.int .i64 y5.h.t,.slice y5.h.np y5.h.nn y5.h.nc,.slice y5.h.kp y5.h.kn y5.h.kc,.int .i64 y12.h.k,.int .i64 y12.h.m,.int .i64 y12.h.f,.int .i64 y12.h.t,.slice y12.h.np y12.h.nn y12.h.nc,.slice y12.h.kp y12.h.kn y12.h.kc,.int .i64 y20.h.k,.int .i64 y20.h.m,.int .i64 y20.h.f,.int .i64 y20.h.t,.slice y20.h.np y20.h.nn y20.h.nc,.slice y20.h.kp y20.h.kn y20.h.kc] 96)=w23 at *;generalize aam:w20.heap.size=g23 at *;have ST23:=STn;clear STn;have hS:(fun W:World=>W.heap[bx]?=some (.cells #[.pointer (some ⟨S.g,0,none⟩)] 143 (0,0))∧W.heap[b15]?=some (.cells #[.int .i64 y12.h.k,.int .i64 y12.h.m,.int .i64 y12.h.f,.int .i64 y12.h.t,.slice y12.h.np y12.h.nn y12.h.nc,.slice y12.h.kp y12.h.kn y12.h.kc] 96 (0,0))∧W.heap[b8]?=some (.cells #[.int .i64 y5.h.k,.int .i64 y5.h.m,.int .i64 y5.h.f,.int .i64 y5.h.t,.slice y5.h.np y5.h.nn y5.h.nc,.slice y5.h.kp y5.h.kn y5.h.kc] 96 (0,0))) w23:=⟨(ST23.out.x (bx,Obj.cells #[.pointer (some ⟨S.g,0,none⟩)] 143 (0,0)) (by simp)).1,(ST23.out.b (b15,y12) (by simp)).1,(ST23.out.b (b8,y5) (by simp)).1⟩;refine ⟨fun _=>hS,?_⟩
  refine au 7 (by kernel_rfl) ?_
  have HT:=hid (az S (n20) d 31 (n:Nat) none 0 0 (some ⟨g23,0,none⟩) 3 3 _ ST23.out.rd);refine bK 7 (oi:=⟨some 25,.call ⟨.value (.func 121),#[.tmp 18,.const (.int .i64 31),.tmp 19,.const (.slice none 0 0),.tmp 24],#[143,3,3,23,94]⟩,96,"terms.go:23",#[⟨0,.data⟩,⟨1,.data⟩,⟨6,.data⟩,⟨5,.chain⟩],none⟩) (d:=25) (R:=fun e w'=>e=.returned (.agg #[.int .i64 31,.int .i64 0,.int .i64 (n:Int),.int .i64 (n20:Int),.slice none 0 0,.slice (some ⟨g23,0,none⟩) 3 3])∧Below w23.heap.size w23 w') hF rfl rfl (by decide) (fun a' hA=>ag rfl) (fun a' hA=>by have e18:=hA.get 18 rfl; have e19:=hA.get 19 rfl; have e24:=hA.get 24 rfl; have ef:∀ f,a'.eval (.func f)=.func (.func f) #[] #[]:=fun _=>rfl; have ec:∀ v,a'.eval (.const v)=v:=fun _=>rfl; clear hA; generalize a'.eval=ρ at *; simp [go_sem,ef,ec,e18,e19,e24]) HT.out (by rintro w' ⟨h,_⟩; cases h) ?_ ?_
  ·rintro ch w' ⟨h,_⟩
   cases h
  rintro v w25 ⟨h,hb⟩;have h:=Ending.returned.inj h;subst h;intro hF2;clear hF hS;have hF:=hF2;clear hF2;have ST25:=hid (ST23.out.below hb);clear hb ST23 HT;have hS:(fun W:World=>W.heap[bx]?=some (.cells #[.pointer (some ⟨S.g,0,none⟩)] 143 (0,0))∧W.heap[b15]?=some (.cells #[.int .i64 y12.h.k,.int .i64 y12.h.m,.int .i64 y12.h.f,.int .i64 y12.h.t,.slice y12.h.np y12.h.nn y12.h.nc,.slice y12.h.kp y12.h.kn y12.h.kc] 96 (0,0))∧W.heap[b8]?=some (.cells #[.int .i64 y5.h.k,.int .i64 y5.h.m,.int .i64 y5.h.f,.int .i64 y5.h.t,.slice y5.h.np y5.h.nn y5.h.nc,.slice y5.h.kp y5.h.kn y5.h.kc] 96 (0,0))) w25:=⟨(ST25.out.x (bx,Obj.cells #[.pointer (some ⟨S.g,0,none⟩)] 143 (0,0)) (by simp)).1,(ST25.out.b (b15,y12) (by simp)).1,(ST25.out.b (b8,y5) (by simp)).1⟩;refine ⟨fun _=>hS,?_⟩
  refine au 8 (by kernel_rfl) ?_
  have FIN:=hid (ST25.out.fin (k:=31) (m:=0) (f:=n) hgl aW St.noN (ST25.out.ks (.slice (some ⟨g23,0,none⟩) 3 3,[y5,y12,y20]) (by simp)) EQ21.out);refine dC 8 (oi:=⟨none,.store 96 (.tmp 3) (.tmp 25),0,"terms.go:23",#[⟨7,.data⟩,⟨7,.chain⟩,⟨0,.phase⟩,⟨1,.phase⟩,⟨2,.phase⟩,⟨3,.phase⟩,⟨4,.phase⟩,⟨5,.phase⟩,⟨6,.phase⟩,⟨7,.phase⟩],none⟩) (w':=((((((w25.setCell ⟨w.heap.size,0,none⟩ (.int .i64 31)).setCell ⟨w.heap.size,1,none⟩ (.int .i64 0)).setCell ⟨w.heap.size,2,none⟩ (.int .i64 (n:Int))).setCell ⟨w.heap.size,3,none⟩ (.int .i64 (n20:Int))).setCell ⟨w.heap.size,4,none⟩ (.slice none 0 0)).setCell ⟨w.heap.size,5,none⟩ (.slice (some ⟨g23,0,none⟩) 3 3))) hF rfl rfl (fun a' hA=>ag rfl) (fun a' hA=>?_) ?_
  ·have e1:=hA.get 3 rfl
   have e2:=hA.get 25 rfl;obtain ⟨c0,c1,c2,c3,c4,c5,f0,f1,f2,f3,f4,f5⟩:=FIN.out.al;clear hA hF;generalize a'.eval=ρ at *
   simp [go_sem,e1,e2,c0,c1,c2,c3,c4,c5,f0,f1,f2,f3,f4,f5]
  refine ⟨fun h=>absurd h (by decide),?_⟩
  refine bu (by kernel_rfl) ?_ _
  subst ha0;simp only [Act.put,List.setIfInBounds_toArray,List.set_cons_zero,List.set_cons_succ];clear hF hS ST25 EQ21
  go_wp2_with fail
  obtain ⟨_,_,_,_,_,_,_,d0,d1,d2,d3,d4,d5,hfin⟩:=FIN.out;refine bodyPost_ret (by simp [results,results271,go_sem,d0,d1,d2,d3,d4,d5,Result.andThen]; try rfl) rfl ?_
  exact hfin
end Go.Proofs.YtmpmfamiegpmgaaGreatDoor
