/-
  The reader's applied.; The reader's ty.
-/
import Derived.Test.YtmpmfamiegpmgaaGreatDoorFG
namespace Go.Proofs.YtmpmfamiegpmgaaGreatDoor
open Tryz
open Go.Lib (cell_of_heap hid)
open Go.RowKit
set_option maxRecDepth 20000
set_option linter.unusedVariables false
set_option linter.unusedSimpArgs false
section
variable {P:Program} {ops:Array Oper} {Q:Exit→Act→World→Prop} {S:World→Prop} {st:Nat}
theorem jS (i j:Nat) {fuel:Nat} {listed:Array Bool} {a:Act} {w:World} (hr:Region.ready .any ops listed=[i,j])
  (h1:Region.ready .any ops listed=[i,j]→wpOp P ops Q i (fun a' w'=>((listed.setIfInBounds i true).getD st true=false→S w')∧fB P ops Q S st fuel (listed.setIfInBounds i true) a' w') a w)
  (h2:Region.ready .any ops listed=[i,j]→wpOp P ops Q j (fun a' w'=>((listed.setIfInBounds j true).getD st true=false→S w')∧fB P ops Q S st fuel (listed.setIfInBounds j true) a' w') a w) :
  fB P ops Q S st (fuel+1) listed a w:=by
 refine ⟨fun h0=>(by rw [hr] at h0; cases h0),fun q hq=>?_⟩
 rw [hr] at hq
 rcases List.mem_cons.1 hq with rfl | hq
 ·exact h1 hr
 ·obtain rfl:=List.mem_singleton.1 hq
  exact h2 hr
theorem cu (i:Nat) {oi:Oper} {d:Nat} {f:FuncId} {args:Array Value} {N:Nat} {L:List (Nat × Value)} {R:Ending→World→Prop} {K:Act→World→Prop} {a:Act} {w:World} (hF:Fs a N L) (hi:ops[i]?=some oi) (hd:oi.dst=some d) (hdN:d < N)
  (hw:∀ a',Fs a' N L→Region.wanted oi (yielded ops a'.tmps)=true)
  (hrun:∀ a',Fs a' N L→(execOp a'.eval oi).run P w=.ok (.enter f args) w)
  (hc:Calls P f args w R) (hout:∀ w',¬ R .outgrown w')
  (Rq:∀ ch w',R (.panicked ch) w'→Q (.panic ch) a w')
  (hret:∀ v w',R (.returned v) w'→(Fs (a.put (some d) v) N ((d,v) :: L)→K (a.put (some d) v) w')):wpOp P ops Q i K a w:=by
 refine wpOp_step hi (fun K' hK=>?_)
 rw [if_pos (hw a hF)]
 unfold Oper.wp
 rw [hrun a hF,Oper.upon_enter]
 refine hc.mono ?_
 intro e w' h
 cases e with
 | returned v =>
  refine hK _ _ ?_
  rw [hd]
  exact hret v w' h (hF.put hdN v)
 | panicked ch=>exact Rq ch w' h
 | outgrown=>exact absurd h (hout w')
theorem dM (i:Nat) {oi:Oper} {d:Nat} {v:Value} {N:Nat} {L:List (Nat × Value)} {K:Act→World→Prop} {a:Act} {w w':World} (hF:Fs a N L) (hi:ops[i]?=some oi) (hd:oi.dst=some d) (hdN:d < N)
  (hw:∀ a',Fs a' N L→Region.wanted oi (yielded ops a'.tmps)=true)
  (hrun:∀ a',Fs a' N L→(execOp a'.eval oi).run P w=.ok (.value v) w')
  (h:Fs (a.put (some d) v) N ((d,v) :: L)→K (a.put (some d) v) w'):wpOp P ops Q i K a w:=by
 refine wpOp_step hi (fun K' hK=>?_)
 rw [if_pos (hw a hF)]
 unfold Oper.wp
 rw [hrun a hF,Oper.upon_value]
 refine hK _ _ ?_
 rw [hd]
 exact h (hF.put hdN v)
theorem dU (i:Nat) {oi:Oper} {N:Nat} {L:List (Nat × Value)} {K:Act→World→Prop} {a:Act} {w w':World} (hF:Fs a N L) (hi:ops[i]?=some oi) (hd:oi.dst=none)
  (hw:∀ a',Fs a' N L→Region.wanted oi (yielded ops a'.tmps)=true)
  (hrun:∀ a',Fs a' N L→(execOp a'.eval oi).run P w=.ok .skip w')
  (h:K a w'):wpOp P ops Q i K a w:=by
 refine wpOp_step hi (fun K' hK=>?_)
 rw [if_pos (hw a hF)]
 unfold Oper.wp
 rw [hrun a hF,Oper.upon_skip]
 refine hK _ _ ?_
 rw [hd]
 exact h
theorem ax (i:Nat) {fuel:Nat} {listed:Array Bool} {a:Act} {w:World} (hr:Region.ready .any ops listed=[i])
  (h1:wpOp P ops Q i (fun a' w'=>((listed.setIfInBounds i true).getD st true=false→S w')∧fB P ops Q S st fuel (listed.setIfInBounds i true) a' w') a w):fB P ops Q S st (fuel+1) listed a w:=by
 refine ⟨fun h0=>(by rw [hr] at h0; cases h0),fun q hq=>?_⟩
 rw [hr] at hq
 obtain rfl:=List.mem_singleton.1 hq
 exact h1
end
set_option maxHeartbeats 8000000 in
theorem BB (S:Src) (F:Nat) (rec:Nt→Nat→Nat→Out Pb) (d:Nat) (hs:Said S rec d) (jY:F≤1000000000) (n:Nat) (w:World) (h:Rd w S n d) (aJ:dA S F rec d n≠.dry) :
  Calls prog 299 #[.pointer (some ⟨S.g,0,none⟩)] w fun e w'=>Ends S d w (dA S F rec d n) (RB w) e w':=by
 have hgl:=h.lt
 have bi:=h.row
 have hb1:Below w.heap.size w (w.alloc aK):=(Below.refl w.heap.size w).alloc (Nat.le_refl _) _
 have hr1:=h.step hb1
 have q2:=hr1.c2
 have hgz:w.heap.size≤(w.alloc aK).heap.size:=by simp
 unfold dA at aJ ⊢
 have HT:=hid (Aj S F rec d hs jY n _ hr1 (aF aJ))
 have fQ:=hid aJ
 obtain ⟨tot,htot⟩:∃ tot,tot=(dH S F rec d n).bind fun b n1=>dJ S n F b n1:=⟨_,rfl⟩
 rw [← htot] at fQ ⊢
 have fJ:=hid htot
 clear hr1 hb1 h hs aJ htot
 go_enter func299,ntmps299
 go_wp2_with fail
 refine HT.out.mono ?_
 rintro e w2 (⟨b,i2,v,hpo,rfl,⟨y,rfl,hyl,hyo,hyp⟩,hr2,hg2⟩ | ⟨ch,ho,rfl,hg2⟩)
 ·obtain ⟨⟨yk,ym,yf,yt,ynp,ynn,ync,yns,ykp,ykn,ykc⟩,yks⟩:=y
  have hz2:w.heap.size+1≤w2.heap.size:=by have:=hg2.size; simpa using this
  have Xj:Hid (tot=dJ S n F (Br.pb (.mk ⟨yk,ym,yf,yt,ynp,ynn,ync,yns,ykp,ykn,ykc⟩ yks)) i2):=hid (by rw [fJ.out,hpo,bind_ok,hyp])
  have hB3:Below w2.heap.size w2 (w2.alloc (.cells #[.int .i64 yk,.int .i64 ym,.int .i64 yf,.int .i64 yt,.slice ynp ynn ync,.slice ykp ykn ykc] 96)):=(Below.refl _ _).alloc (Nat.le_refl _) _
  have Xk:=hid (heap_alloc_new w2 (.cells #[.int .i64 yk,.int .i64 ym,.int .i64 yf,.int .i64 yt,.slice ynp ynn ync,.slice ykp ykn ykc] 96))
  have Xl:=hid (hyl.step _ hB3)
  have Xm:=hid ((Br.On.low _ hyo hyl).mono (Q:=fun q=>w.heap.size+1≤q∧q≠w2.heap.size) (fun q hq=>⟨by have:=hq.1; simpa using this,by have:=hq.2; omega⟩) _)
  have HR0:=hid (hr2.step hB3)
  have HG0:=hid (ae hg2 (grown_below hB3 _))
  have Xn:Hid (w2.heap.size < (w2.alloc (.cells #[.int .i64 yk,.int .i64 ym,.int .i64 yf,.int .i64 yt,.slice ynp ynn ync,.slice ykp ykn ykc] 96)).heap.size):=hid (by simp)
  clear hpo hyl hyo hyp hr2 hg2 hB3
  simp only [Hd.val,Br.h] at *
  go_wp2_with fail
  generalize hb4:w2.heap.size=b4 at *
  have HB4:=hid hb4
  clear hb4
  generalize w2.alloc (.cells #[.int .i64 yk,.int .i64 ym,.int .i64 yf,.int .i64 yt,.slice ynp ynn ync,.slice ykp ykn ykc] 96)=w3 at *
  go_loopg [] F (fun gk wr=>∃ (y:Br) (i:Nat),Hid (tot=dJ S n gk y.pb i)∧Hid (wr.heap[b4]?=some (.cells #[.int .i64 y.h.k,.int .i64 y.h.m,.int .i64 y.h.f,.int .i64 y.h.t,.slice y.h.np y.h.nn y.h.nc,.slice y.h.kp y.h.kn y.h.kc] 96 (0,0)))∧Hid (y.Lies wr)∧Hid (y.On fun q=>w.heap.size+1≤q∧q≠b4)∧Hid (Rd wr S i d)∧Hid (b4 < wr.heap.size)∧(w.alloc aK).grownBy wr (some S.g))
  case atStart=>exact ⟨_,i2,Xj,Xk,Xl,Xm,HR0,Xn,HG0.out⟩
  case round =>
   obtain ⟨y,i,HL,uZ,uO,uD,HR,vz,hgr⟩:=hrel
   obtain ⟨⟨yk,ym,yf,yt,ynp,ynn,ync,yns,ykp,ykn,ykc⟩,yks⟩:=y
   simp only [Br.h] at uZ
   have rQ:=hid hgr
   have Es:w.heap.size+1≤wr.heap.size:=by have:=hgr.size; simpa using this
   have Hr:S.g≠b4:=by have:=HB4.out; omega
   have Hr:b4≠S.g:=fun e=>Hr e.symm
   have hgg:S.g < w.heap.size:=hgl
   clear hgr
   cases gk with
   | zero=>exact absurd HL.out (by intro e; exact fQ.out e)
   | succ gk =>
   have zF:=HL.out
   simp only [dJ] at zF
   have tJ:=hid zF
   clear zF HL
   have HK:=hid (fun W (hW:Below wr.heap.size wr W)=>bP S i d W (HR.out.step hW))
   cases h7:(S.kd i == 7)
   ·cases h6:(S.kd i == 6)
    ·have jd:Hid (tot=.ok (Br.pb (Br.mk ⟨yk,ym,yf,yt,ynp,ynn,ync,yns,ykp,ykn,ykc⟩ yks)) i):=hid (by rw [tJ.out,h7,h6]; rfl)
     clear tJ
     generalize S.kd i=kdi at *
     go_wp2_with fail
     refine (HK.out _ (Below.refl _ _)).mono ?_
     rintro e w4 ⟨rfl,KE⟩
     have AV:=hid KE
     clear KE
     go_wp2_with fail
     refine (HK.out _ AV.out).mono ?_
     rintro e w5 ⟨rfl,KF⟩
     have hb5:=AV.out.trans (KF.mono AV.out.size)
     have oK:=(hb5.block b4 vz.out).trans uZ.out
     have qq:=cell_of_heap oK
     have q0:=qq 0
     have q1:=qq 1
     have q2:=qq 2
     have q3:=qq 3
     have q4:=qq 4
     have q5:=qq 5
     simp only [List.getElem?_toArray,List.getElem?_cons_zero,List.getElem?_cons_succ] at q0 q1 q2 q3 q4 q5
     have FIN:=hid (bQ (o:=tot) _ yk ym yf yt ynp ynn ync yns ykp ykn ykc yks (HR.out.step hb5) (ae rQ.out (grown_below hb5 _)) hgl bi jd.out (uO.out.step _ hb5) (uD.out.mono (fun q hq=>hq.1) _) rfl)
     clear KF hb5 oK qq
     have c0:=FIN.out.c0
     have c1:=FIN.out.c1
     have c2:=FIN.out.c2
     have c3:=FIN.out.c3
     have c4:=FIN.out.c4
     have c5:=FIN.out.c5
     have f0:=FIN.out.fz 0
     have f1:=FIN.out.fz 1
     have f2:=FIN.out.fz 2
     have f3:=FIN.out.fz 3
     have f4:=FIN.out.fz 4
     have f5:=FIN.out.fz 5
     go_wp2_with fail
     obtain ⟨_,_,_,_,_,_,_,d0,d1,d2,d3,d4,d5,hfin⟩:=FIN.out
     refine bodyPost_ret (by simp [results,results299,go_sem,d0,d1,d2,d3,d4,d5,Result.andThen]; try rfl) rfl ?_
     exact hfin
    ·have jd:Hid (tot=(S.typePath i).bind fun p m1=>dJ S n gk (node 42 n m1 p [Br.pb (Br.mk ⟨yk,ym,yf,yt,ynp,ynn,ync,yns,ykp,ykn,ykc⟩ yks)]) m1):=hid (by rw [tJ.out,h7,h6]; rfl)
     clear tJ
     have h7':=h7
     have h6':=h6
     generalize S.kd i=kdi at *
     go_wp2_with fail
     refine (HK.out _ (Below.refl _ _)).mono ?_
     rintro e w4 ⟨rfl,KE⟩
     have AV:=hid KE
     clear KE
     go_wp2_with fail
     refine (HK.out _ AV.out).mono ?_
     rintro e w5 ⟨rfl,KF⟩
     have hb5:=AV.out.trans (KF.mono AV.out.size)
     have KG:=hid ((hb5.block b4 vz.out).trans uZ.out)
     have KH:=hid (uO.out.step _ hb5)
     have HR2:=hid (HR.out.step hb5)
     have KI:Hid (b4 < w5.heap.size):=hid (Nat.lt_of_lt_of_le vz.out hb5.size)
     have KJ:=hid (ae rQ.out (grown_below hb5 _))
     have KL:w.heap.size+1≤w5.heap.size:=Nat.le_trans Es hb5.size
     clear KF hb5 HK AV uZ uO HR vz rQ Es
     go_wp2_with fail
     obtain ⟨wr,hwr⟩:∃ wr,wr=w5:=⟨_,rfl⟩
     subst hwr
     have uZ:=KG
     have uO:=KH
     have HR:=HR2
     have vz:=KI
     have rQ:=KJ
     have Es:=KL
     clear KG KH HR2 KI KJ KL h7 h6 h7' h6'
     refine bn (fun W:World=>W.heap[b4]?=some (.cells #[.int .i64 yk,.int .i64 ym,.int .i64 yf,.int .i64 yt,.slice ynp ynn ync,.slice ykp ykn ykc] 96 (0,0))) 6 (by kernel_rfl) ?_
     have hS:(fun W:World=>W.heap[b4]?=some (.cells #[.int .i64 yk,.int .i64 ym,.int .i64 yf,.int .i64 yt,.slice ynp ynn ync,.slice ykp ykn ykc] 96 (0,0))) wr.drew:=uZ.out
     refine eu (N:=27) [(0,.pointer (some ⟨S.g,0,none⟩)),(3,.int .i64 (n:Int)),(4,.pointer (some ⟨b4,0,none⟩))] (Fs.of rfl rfl (by simp [Act.eval])) ?_
     intro a0 ha0 hF
     refine ay 0 [6,7] (oi:=⟨some 19,.move (.tmp 0),143,"terms.go:179",#[],none⟩) (d:=19) (v:=.pointer (some ⟨S.g,0,none⟩)) hF hS rfl rfl (by decide) (by kernel_rfl) (by kernel_rfl) (by kernel_rfl) (by kernel_rfl) (fun _ _ _ h=>h) (fun a' hA=>ag rfl) (aI rfl rfl) ?_
     clear hF
     intro hF
     refine ay 1 [6,7] (oi:=⟨some 20,.move (.tmp 3),3,"terms.go:179",#[],none⟩) (d:=20) (v:=.int .i64 (n:Int)) hF hS rfl rfl (by decide) (by kernel_rfl) (by kernel_rfl) (by kernel_rfl) (by kernel_rfl) (fun _ _ _ h=>h) (fun a' hA=>ag rfl) (aI rfl rfl) ?_
     clear hF
     intro hF
     refine ay 2 [3,6,7] (oi:=⟨some 21,.move (.tmp 0),143,"terms.go:179",#[],none⟩) (d:=21) (v:=.pointer (some ⟨S.g,0,none⟩)) hF hS rfl rfl (by decide) (by kernel_rfl) (by kernel_rfl) (by kernel_rfl) (by kernel_rfl) (fun _ _ _ h=>h) (fun a' hA=>ag rfl) (aI rfl rfl) ?_
     clear hF
     intro hF
     refine ay 4 [5,6,7] (oi:=⟨some 23,.load 96 (.tmp 4),96,"terms.go:179",#[],none⟩) (d:=23) (v:=.agg #[.int .i64 yk,.int .i64 ym,.int .i64 yf,.int .i64 yt,.slice ynp ynn ync,.slice ykp ykn ykc]) hF hS rfl rfl (by decide) (by kernel_rfl) (by kernel_rfl) (by kernel_rfl) (by kernel_rfl) (fun _ _ _ h=>h) (fun a' hA=>ag rfl) (fun a' hA w' hw=>by have e4:=hA.get 4 rfl; have ec:∀ v,a'.eval (.const v)=v:=fun _=>rfl; have qq:=cell_of_heap hw; have q0:=qq 0; have q1:=qq 1; have q2:=qq 2; have q3:=qq 3; have q4:=qq 4; have q5:=qq 5; simp only [List.getElem?_toArray,List.getElem?_cons_zero,List.getElem?_cons_succ] at q0 q1 q2 q3 q4 q5; clear qq; clear hA; generalize a'.eval=ρ at *; simp [go_sem,ec,e4,q0,q1,q2,q3,q4,q5]; try rfl) ?_
     clear hF
     intro hF
     refine jS 3 5 (by kernel_rfl) (fun _=>?_) (fun _=>?_)
     ·refine cu 3 (oi:=⟨some 22,.call ⟨.value (.func 284),#[.tmp 21],#[143]⟩,23,"terms.go:179",#[⟨2,.data⟩],none⟩) (d:=22) (R:=fun e w'=>Ends S d wr.drew (S.typePath i) (RL wr.drew) e w') hF rfl rfl (by decide) (fun a' hA=>ag rfl) (fun a' hA=>by have e21:=hA.get 21 rfl; have ef:∀ f,a'.eval (.func f)=.func (.func f) #[] #[]:=fun _=>rfl; have ec:∀ v,a'.eval (.const v)=v:=fun _=>rfl; clear hA; generalize a'.eval=ρ at *; simp [go_sem,ef,ec,e21]) (gq S i d wr.drew (HR.out.step (Below.refl wr.heap.size wr).drew) (aF (by rw [← jd.out]; exact fQ.out))) (fun w'=>Ends.noOut) ?_ ?_
      ·rintro ch w' (⟨_,_,_,_,h2,_⟩ | ⟨ch',ho,h2,hg⟩)
       ·cases h2
       ·have h2:=Ending.panicked.inj h2
        subst h2
        have hq:bodyPost prog f299 (fun e w'=>Ends S d w tot (RB w) e w') (.panic ch) _ w':=⟨hF.2.1,Or.inr ⟨ch,by rw [jd.out]; exact aj ho,rfl,ae (grown_below ((Below.refl _ _).alloc (Nat.le_refl _) _) _) (ae (ae rQ.out (grown_below (Below.refl wr.heap.size wr).drew _)) hg)⟩⟩
        exact hq
      rintro v w5 (⟨p,n1,v',hpo,h2,hv,uC,hg5⟩ | ⟨_,_,h2,_⟩) hF2
      rotate_left
      ·cases h2
      have h2:=Ending.returned.inj h2
      subst h2
      obtain ⟨np,nn,nc,rfl⟩:=hv.form
      have hF:=hF2
      clear hF2
      have hs5:wr.heap.size≤w5.heap.size:=hg5.size
      have oK:w5.heap[b4]?=some (.cells #[.int .i64 yk,.int .i64 ym,.int .i64 yf,.int .i64 yt,.slice ynp ynn ync,.slice ykp ykn ykc] 96 (0,0)):=(hg5.block b4 vz.out (fun e=>Hr (Option.some.inj e))).trans uZ.out
      refine ⟨fun _=>oK,?_⟩
      refine ax 5 (by kernel_rfl) (dM 5 (oi:=⟨some 24,.buildSlice 94 1 #[(0,.tmp 23)],94,"terms.go:179",#[⟨4,.data⟩],none⟩) (d:=24) (v:=.slice (some ⟨w5.heap.size,0,none⟩) 1 1) (w':=w5.alloc (.cells #[.int .i64 yk,.int .i64 ym,.int .i64 yf,.int .i64 yt,.slice ynp ynn ync,.slice ykp ykn ykc] 96)) hF rfl rfl (by decide) (fun a' hA=>ag rfl) (fun a' hA=>by have e23:=hA.get 23 rfl; have ec:∀ v,a'.eval (.const v)=v:=fun _=>rfl; clear hA; generalize a'.eval=ρ at *; simp [go_sem,ec,e23]; try rfl) ?_)
      clear hF
      intro hF
      have tN:Below w5.heap.size w5 (w5.alloc (.cells #[.int .i64 yk,.int .i64 ym,.int .i64 yf,.int .i64 yt,.slice ynp ynn ync,.slice ykp ykn ykc] 96)):=(Below.refl _ _).alloc (Nat.le_refl _) _
      have tC:(w5.alloc (.cells #[.int .i64 yk,.int .i64 ym,.int .i64 yf,.int .i64 yt,.slice ynp ynn ync,.slice ykp ykn ykc] 96)).heap[b4]?=some (.cells #[.int .i64 yk,.int .i64 ym,.int .i64 yf,.int .i64 yt,.slice ynp ynn ync,.slice ykp ykn ykc] 96 (0,0)):=(tN.block b4 (Array.getElem?_eq_some_iff.1 oK).1).trans oK
      refine ⟨fun _=>tC,?_⟩
      have hgb:S.g < w.heap.size+1:=by omega
      have HKB:Hid ((w5.alloc (.cells #[.int .i64 yk,.int .i64 ym,.int .i64 yf,.int .i64 yt,.slice ynp ynn ync,.slice ykp ykn ykc] 96)).heap[w5.heap.size]?=some (.cells #[.int .i64 yk,.int .i64 ym,.int .i64 yf,.int .i64 yt,.slice ynp ynn ync,.slice ykp ykn ykc] 96 (0,0))∧w.heap.size+1≤w5.heap.size∧w5.heap.size≠b4):=hid ⟨heap_alloc_new w5 (.cells #[.int .i64 yk,.int .i64 ym,.int .i64 yf,.int .i64 yt,.slice ynp ynn ync,.slice ykp ykn ykc] 96),by omega,by have:=vz.out; omega⟩
      have Hq:=hid (own_base (base':=w.heap.size+1) (ownsRow_below hv tN) Es)
      have Kr:Hid (∀ q,np=some q→q.block≠b4):=hid (fun q hq=>by subst hq; have h1:=(hv.lt _ rfl).1; have h3:=vz.out; have h4:wr.heap.size≤q.block:=h1; omega)
      have tu:=hid (uC.step tN)
      have AP:=hid (ae (ae (ae rQ.out (grown_below (Below.refl wr.heap.size wr).drew _)) hg5) (grown_below tN _))
      have rU:Br.Lies w5 (Br.mk ⟨yk,ym,yf,yt,ynp,ynn,ync,yns,ykp,ykn,ykc⟩ yks):=Br.Lies.kept (P:=fun q=>w.heap.size+1≤q∧q≠b4) _ hs5 (fun q hq hlt=>hg5.block q hlt (fun e=>by have:=Option.some.inj e; omega)) uD.out uO.out
      have Ey:Hid (Br.Lies (w5.alloc (.cells #[.int .i64 yk,.int .i64 ym,.int .i64 yf,.int .i64 yt,.slice ynp ynn ync,.slice ykp ykn ykc] 96)) (Br.mk ⟨yk,ym,yf,yt,ynp,ynn,ync,yns,ykp,ykn,ykc⟩ yks)∧Br.On (fun q=>w.heap.size+1≤q∧q≠b4∧q≠w5.heap.size) (Br.mk ⟨yk,ym,yf,yt,ynp,ynn,ync,yns,ykp,ykn,ykc⟩ yks)):=hid ⟨rU.step _ tN,(Br.On.low _ uD.out uO.out).mono (fun q hq=>⟨hq.1.1,hq.1.2,by have:=hq.2; omega⟩) _⟩
      have rO:=hid hpo
      generalize hkb:w5.heap.size=kb at *
      clear hkb hv uC hg5 hpo rU oK tN hS
      have hS:True:=trivial
      generalize w5.alloc (.cells #[.int .i64 yk,.int .i64 ym,.int .i64 yf,.int .i64 yt,.slice ynp ynn ync,.slice ykp ykn ykc] 96)=w6 at *
      refine lT 6 (oi:=⟨some 25,.call ⟨.value (.func 121),#[.tmp 19,.const (.int .i64 42),.tmp 20,.tmp 22,.tmp 24],#[143,3,3,23,94]⟩,96,"terms.go:179",#[⟨0,.data⟩,⟨1,.data⟩,⟨3,.data⟩,⟨5,.data⟩,⟨3,.chain⟩],none⟩) (d:=25) (R:=fun e w'=>e=.returned (.agg #[.int .i64 42,.int .i64 0,.int .i64 (n:Int),.int .i64 (n1:Int),.slice np nn nc,.slice (some ⟨kb,0,none⟩) 1 1])∧Below w6.heap.size w6 w') hF rfl rfl (by decide) (by kernel_rfl) (fun a' hA=>ag rfl) (fun a' hA=>by have e19:=hA.get 19 rfl; have e20:=hA.get 20 rfl; have e22:=hA.get 22 rfl; have e24:=hA.get 24 rfl; have ef:∀ f,a'.eval (.func f)=.func (.func f) #[] #[]:=fun _=>rfl; have ec:∀ v,a'.eval (.const v)=v:=fun _=>rfl; clear hA; generalize a'.eval=ρ at *; simp [go_sem,ef,ec,e19,e20,e22,e24]) (aC S n1 d 42 n np nn nc (some ⟨kb,0,none⟩) 1 1 w6 tu.out) (by rintro w' ⟨h,_⟩; cases h) ?_ ?_
      ·rintro ch w' ⟨h,_⟩
       cases h
      rintro v w7 ⟨h,hb7⟩
      have h:=Ending.returned.inj h
      subst h
      refine ⟨fun h=>absurd h (by decide),?_⟩
      clear hF
      intro hF
      have hb4:=(hb7.block b4 (Array.getElem?_eq_some_iff.1 tC).1).trans tC
      obtain ⟨iL,hgs⟩:=iZ hb4 (.int .i64 42) (.int .i64 0) (.int .i64 (n:Int)) (.int .i64 (n1:Int)) (.slice np nn nc) (.slice (some ⟨kb,0,none⟩) 1 1)
      refine ax 7 (by kernel_rfl) (dU 7 (oi:=⟨none,.store 96 (.tmp 4) (.tmp 25),0,"terms.go:179",#[⟨6,.data⟩,⟨6,.chain⟩,⟨0,.phase⟩,⟨1,.phase⟩,⟨2,.phase⟩,⟨3,.phase⟩,⟨4,.phase⟩,⟨5,.phase⟩,⟨6,.phase⟩],none⟩) (w':=((((((w7.setCell ⟨b4,0,none⟩ (.int .i64 42)).setCell ⟨b4,1,none⟩ (.int .i64 0)).setCell ⟨b4,2,none⟩ (.int .i64 (n:Int))).setCell ⟨b4,3,none⟩ (.int .i64 (n1:Int))).setCell ⟨b4,4,none⟩ (.slice np nn nc)).setCell ⟨b4,5,none⟩ (.slice (some ⟨kb,0,none⟩) 1 1))) hF rfl rfl (fun a' hA=>ag rfl) (fun a' hA=>?_) ?_)
      ·have e4:=hA.get 4 rfl
       have e25:=hA.get 25 rfl
       have qq:=cell_of_heap hb4
       have q0:=qq 0
       have q1:=qq 1
       have q2:=qq 2
       have q3:=qq 3
       have q4:=qq 4
       have q5:=qq 5
       simp only [List.getElem?_toArray,List.getElem?_cons_zero,List.getElem?_cons_succ] at q0 q1 q2 q3 q4 q5
       have fz:∀ i,w7.frozen? ⟨b4,i,none⟩=false:=fun i=>by simp [World.frozen?,hb4]
       have f0:=fz 0
       have f1:=fz 1
       have f2:=fz 2
       have f3:=fz 3
       have f4:=fz 4
       have f5:=fz 5
       clear hA hF
       generalize a'.eval=ρ at *
       simp [go_sem,e4,e25,q0,q1,q2,q3,q4,q5,f0,f1,f2,f3,f4,f5]
      refine ⟨fun h=>absurd h (by decide),?_⟩
      refine bG (by kernel_rfl) ?_ _
      have hkb:=HKB.out
      have hown1:w7.ownsRow (w.heap.size+1) 96 6 (.slice (some ⟨kb,0,none⟩) 1 1) [Br.mk ⟨yk,ym,yf,yt,ynp,ynn,ync,yns,ykp,ykn,ykc⟩ yks].length (bU [Br.mk ⟨yk,ym,yf,yt,ynp,ynn,ync,yns,ykp,ykn,ykc⟩ yks]):=eF ((hb7.block _ (Array.getElem?_eq_some_iff.1 hkb.1).1).trans hkb.1) hkb.2.1 rfl (by unfold maxLen; omega)
      have kV:Kids (w.heap.size+1) (.slice (some ⟨kb,0,none⟩) 1 1) w7 [Br.mk ⟨yk,ym,yf,yt,ynp,ynn,ync,yns,ykp,ykn,ykc⟩ yks]:=fun z hz=>by
       obtain rfl:=List.mem_singleton.1 hz
       exact ⟨Ey.out.1.step _ hb7,Ey.out.2.mono (fun q hq=>⟨hq.1,fun e=>hq.2.2 (Option.some.inj (show some q=some (kb) from e))⟩) _⟩
      have HL:=cZ (w0:=w) (w1:=w) 42 0 n n1 (ownsRow_below Hq.out hb7) hown1 kV
      have hon:Br.On (fun q=>w.heap.size+1≤q∧q≠b4) (.mk ⟨42,0,n,n1,np,nn,nc,p.map (fun x:Nat=>(x:Int)),some ⟨kb,0,none⟩,1,1⟩ [Br.mk ⟨yk,ym,yf,yt,ynp,ynn,ync,yns,ykp,ykn,ykc⟩ yks]):=by
       rw [jl]
       refine ⟨fun q _ hq=>⟨?_,Kr.out q (by simpa [Br.h] using hq)⟩,fun q _ hq=>?_,fun z hz=>?_⟩
       ·simp only [Br.h] at hq; subst hq; exact (Hq.out.lt _ rfl).1
       ·simp only [Br.h,Option.some.injEq] at hq; subst hq; exact ⟨hkb.2.1,hkb.2.2⟩
       ·simp only [Br.ks,List.mem_singleton] at hz; subst hz; exact Ey.out.2.mono (fun q hq=>⟨hq.1,hq.2.1⟩) _
      have hlies:Br.Lies ((((((w7.setCell ⟨b4,0,none⟩ (.int .i64 42)).setCell ⟨b4,1,none⟩ (.int .i64 0)).setCell ⟨b4,2,none⟩ (.int .i64 (n:Int))).setCell ⟨b4,3,none⟩ (.int .i64 (n1:Int))).setCell ⟨b4,4,none⟩ (.slice np nn nc)).setCell ⟨b4,5,none⟩ (.slice (some ⟨kb,0,none⟩) 1 1)) (.mk ⟨42,0,n,n1,np,nn,nc,p.map (fun x:Nat=>(x:Int)),some ⟨kb,0,none⟩,1,1⟩ [Br.mk ⟨yk,ym,yf,yt,ynp,ynn,ync,yns,ykp,ykn,ykc⟩ yks]) :=
       Br.Lies.kept (P:=fun q=>w.heap.size+1≤q∧q≠b4) _ hgs.size (fun q hq hlt=>hgs.block q hlt (fun e=>hq.2 (Option.some.inj e))) hon HL.1
      have oJ:=hid (And.intro iL (And.intro hlies (And.intro hon (And.intro ((tu.out.step hb7).grow hgs (fun e=>by have:=Option.some.inj e; omega) (fun e=>by have:=Option.some.inj e; omega)) (And.intro (Array.getElem?_eq_some_iff.1 iL).1 (dL (ae AP.out (grown_below hb7 _)) hgs (fun q hq=>by have:=Option.some.inj hq; simp; omega)))))))
      subst ha0
      simp only [Act.put,List.setIfInBounds_toArray,List.set_cons_zero,List.set_cons_succ]
      clear hF iL hgs hb4 tC hkb hown1 kV HL hon hlies hb7 hS
      generalize ((((((w7.setCell ⟨b4,0,none⟩ (.int .i64 42)).setCell ⟨b4,1,none⟩ (.int .i64 0)).setCell ⟨b4,2,none⟩ (.int .i64 (n:Int))).setCell ⟨b4,3,none⟩ (.int .i64 (n1:Int))).setCell ⟨b4,4,none⟩ (.slice np nn nc)).setCell ⟨b4,5,none⟩ (.slice (some ⟨kb,0,none⟩) 1 1))=w8 at *
      go_wp2_with fail
      go_roundg gk
      case measure=>omega
      case rel=>exact ⟨.mk ⟨42,0,n,n1,np,nn,nc,p.map (fun x:Nat=>(x:Int)),some ⟨kb,0,none⟩,1,1⟩ [Br.mk ⟨yk,ym,yf,yt,ynp,ynn,ync,yns,ykp,ykn,ykc⟩ yks],n1,hid (by rw [jd.out,rO.out]; simp [bind_ok,Br.pb,pbs,node]),hid oJ.out.1,hid oJ.out.2.1,hid oJ.out.2.2.1,hid oJ.out.2.2.2.1,hid oJ.out.2.2.2.2.1,oJ.out.2.2.2.2.2⟩
     ·refine dM 5 (oi:=⟨some 24,.buildSlice 94 1 #[(0,.tmp 23)],94,"terms.go:179",#[⟨4,.data⟩],none⟩) (d:=24) (v:=.slice (some ⟨wr.heap.size,0,none⟩) 1 1) (w':=wr.drew.alloc (.cells #[.int .i64 yk,.int .i64 ym,.int .i64 yf,.int .i64 yt,.slice ynp ynn ync,.slice ykp ykn ykc] 96)) hF rfl rfl (by decide) (fun a' hA=>ag rfl) (fun a' hA=>by have e23:=hA.get 23 rfl; have ec:∀ v,a'.eval (.const v)=v:=fun _=>rfl; clear hA; generalize a'.eval=ρ at *; simp [go_sem,ec,e23]; try rfl) ?_
      clear hF
      intro hF
      have oK:Below wr.heap.size wr (wr.drew.alloc (.cells #[.int .i64 yk,.int .i64 ym,.int .i64 yf,.int .i64 yt,.slice ynp ynn ync,.slice ykp ykn ykc] 96)):=(Below.refl wr.heap.size wr).drew.alloc (Nat.le_refl _) _
      have hK5:(wr.drew.alloc (.cells #[.int .i64 yk,.int .i64 ym,.int .i64 yf,.int .i64 yt,.slice ynp ynn ync,.slice ykp ykn ykc] 96)).heap[wr.heap.size]?=some (.cells #[.int .i64 yk,.int .i64 ym,.int .i64 yf,.int .i64 yt,.slice ynp ynn ync,.slice ykp ykn ykc] 96 (0,0)):=heap_alloc_new wr.drew (.cells #[.int .i64 yk,.int .i64 ym,.int .i64 yf,.int .i64 yt,.slice ynp ynn ync,.slice ykp ykn ykc] 96)
      have RF:(wr.drew.alloc (.cells #[.int .i64 yk,.int .i64 ym,.int .i64 yf,.int .i64 yt,.slice ynp ynn ync,.slice ykp ykn ykc] 96)).heap[b4]?=some (.cells #[.int .i64 yk,.int .i64 ym,.int .i64 yf,.int .i64 yt,.slice ynp ynn ync,.slice ykp ykn ykc] 96 (0,0)):=(oK.block b4 vz.out).trans uZ.out
      have Hm:(wr.drew.alloc (.cells #[.int .i64 yk,.int .i64 ym,.int .i64 yf,.int .i64 yt,.slice ynp ynn ync,.slice ykp ykn ykc] 96)).heap.size=wr.heap.size+1:=by simp
      refine ⟨fun _=>RF,?_⟩
      have mY:=hid (HR.out.step oK)
      generalize wr.drew.alloc (.cells #[.int .i64 yk,.int .i64 ym,.int .i64 yf,.int .i64 yt,.slice ynp ynn ync,.slice ykp ykn ykc] 96)=w5 at *
      refine ax 3 (by kernel_rfl) (cu 3 (oi:=⟨some 22,.call ⟨.value (.func 284),#[.tmp 21],#[143]⟩,23,"terms.go:179",#[⟨2,.data⟩],none⟩) (d:=22) (R:=fun e w'=>Ends S d w5 (S.typePath i) (RL w5) e w') hF rfl rfl (by decide) (fun a' hA=>ag rfl) (fun a' hA=>by have e21:=hA.get 21 rfl; have ef:∀ f,a'.eval (.func f)=.func (.func f) #[] #[]:=fun _=>rfl; have ec:∀ v,a'.eval (.const v)=v:=fun _=>rfl; clear hA; generalize a'.eval=ρ at *; simp [go_sem,ef,ec,e21]) (gq S i d w5 mY.out (aF (by rw [← jd.out]; exact fQ.out))) (fun w'=>Ends.noOut) ?_ ?_)
      ·rintro ch w' (⟨_,_,_,_,h2,_⟩ | ⟨ch',ho,h2,hg⟩)
       ·cases h2
       ·have h2:=Ending.panicked.inj h2
        subst h2
        have hq:bodyPost prog f299 (fun e w'=>Ends S d w tot (RB w) e w') (.panic ch) _ w':=⟨hF.2.1,Or.inr ⟨ch,by rw [jd.out]; exact aj ho,rfl,ae (grown_below ((Below.refl _ _).alloc (Nat.le_refl _) _) _) (ae (ae rQ.out (grown_below oK _)) hg)⟩⟩
        exact hq
      rintro v w6 (⟨p,n1,v',hpo,h2,hv,Ew,rP⟩ | ⟨_,_,h2,_⟩) hF2
      rotate_left
      ·cases h2
      have h2:=Ending.returned.inj h2
      subst h2
      obtain ⟨np,nn,nc,rfl⟩:=hv.form
      have hF:=hF2
      clear hF2
      have tC:w6.heap[b4]?=some (.cells #[.int .i64 yk,.int .i64 ym,.int .i64 yf,.int .i64 yt,.slice ynp ynn ync,.slice ykp ykn ykc] 96 (0,0)):=(rP.block b4 (by have:=vz.out; omega) (fun e=>Hr (Option.some.inj e))).trans RF
      refine ⟨fun _=>tC,?_⟩
      have hs6:w5.heap.size≤w6.heap.size:=rP.size
      have HKB:Hid (w6.heap[wr.heap.size]?=some (.cells #[.int .i64 yk,.int .i64 ym,.int .i64 yf,.int .i64 yt,.slice ynp ynn ync,.slice ykp ykn ykc] 96 (0,0))∧w.heap.size+1≤wr.heap.size∧wr.heap.size≠b4):=hid ⟨(rP.block wr.heap.size (by omega) (fun e=>by have:=Option.some.inj e; omega)).trans hK5,by omega,by have:=vz.out; omega⟩
      have Hq:=hid (own_base (base':=w.heap.size+1) hv (by omega))
      have Kr:Hid (∀ q,np=some q→q.block≠b4):=hid (fun q hq=>by subst hq; have h1:=(hv.lt _ rfl).1; have h3:=vz.out; omega)
      have tu:=hid Ew
      have AP:=hid (ae (ae rQ.out (grown_below oK _)) rP)
      have rU:Br.Lies w6 (Br.mk ⟨yk,ym,yf,yt,ynp,ynn,ync,yns,ykp,ykn,ykc⟩ yks):=Br.Lies.kept (P:=fun q=>w.heap.size+1≤q∧q≠b4) _ hs6 (fun q hq hlt=>rP.block q hlt (fun e=>by have:=Option.some.inj e; omega)) uD.out (uO.out.step _ oK)
      have Ey:Hid (Br.Lies w6 (Br.mk ⟨yk,ym,yf,yt,ynp,ynn,ync,yns,ykp,ykn,ykc⟩ yks)∧Br.On (fun q=>w.heap.size+1≤q∧q≠b4∧q≠wr.heap.size) (Br.mk ⟨yk,ym,yf,yt,ynp,ynn,ync,yns,ykp,ykn,ykc⟩ yks)):=hid ⟨rU,(Br.On.low _ uD.out uO.out).mono (fun q hq=>⟨hq.1.1,hq.1.2,by have:=hq.2; omega⟩) _⟩
      have rO:=hid hpo
      generalize hkb:wr.heap.size=kb at *
      clear hkb hv Ew rP hpo rU oK RF hK5 Hm hS
      have hS:True:=trivial
      refine lT 6 (oi:=⟨some 25,.call ⟨.value (.func 121),#[.tmp 19,.const (.int .i64 42),.tmp 20,.tmp 22,.tmp 24],#[143,3,3,23,94]⟩,96,"terms.go:179",#[⟨0,.data⟩,⟨1,.data⟩,⟨3,.data⟩,⟨5,.data⟩,⟨3,.chain⟩],none⟩) (d:=25) (R:=fun e w'=>e=.returned (.agg #[.int .i64 42,.int .i64 0,.int .i64 (n:Int),.int .i64 (n1:Int),.slice np nn nc,.slice (some ⟨kb,0,none⟩) 1 1])∧Below w6.heap.size w6 w') hF rfl rfl (by decide) (by kernel_rfl) (fun a' hA=>ag rfl) (fun a' hA=>by have e19:=hA.get 19 rfl; have e20:=hA.get 20 rfl; have e22:=hA.get 22 rfl; have e24:=hA.get 24 rfl; have ef:∀ f,a'.eval (.func f)=.func (.func f) #[] #[]:=fun _=>rfl; have ec:∀ v,a'.eval (.const v)=v:=fun _=>rfl; clear hA; generalize a'.eval=ρ at *; simp [go_sem,ef,ec,e19,e20,e22,e24]) (aC S n1 d 42 n np nn nc (some ⟨kb,0,none⟩) 1 1 w6 tu.out) (by rintro w' ⟨h,_⟩; cases h) ?_ ?_
      ·rintro ch w' ⟨h,_⟩
       cases h
      rintro v w7 ⟨h,hb7⟩
      have h:=Ending.returned.inj h
      subst h
      refine ⟨fun h=>absurd h (by decide),?_⟩
      clear hF
      intro hF
      have hb4:=(hb7.block b4 (Array.getElem?_eq_some_iff.1 tC).1).trans tC
      obtain ⟨iL,hgs⟩:=iZ hb4 (.int .i64 42) (.int .i64 0) (.int .i64 (n:Int)) (.int .i64 (n1:Int)) (.slice np nn nc) (.slice (some ⟨kb,0,none⟩) 1 1)
      refine ax 7 (by kernel_rfl) (dU 7 (oi:=⟨none,.store 96 (.tmp 4) (.tmp 25),0,"terms.go:179",#[⟨6,.data⟩,⟨6,.chain⟩,⟨0,.phase⟩,⟨1,.phase⟩,⟨2,.phase⟩,⟨3,.phase⟩,⟨4,.phase⟩,⟨5,.phase⟩,⟨6,.phase⟩],none⟩) (w':=((((((w7.setCell ⟨b4,0,none⟩ (.int .i64 42)).setCell ⟨b4,1,none⟩ (.int .i64 0)).setCell ⟨b4,2,none⟩ (.int .i64 (n:Int))).setCell ⟨b4,3,none⟩ (.int .i64 (n1:Int))).setCell ⟨b4,4,none⟩ (.slice np nn nc)).setCell ⟨b4,5,none⟩ (.slice (some ⟨kb,0,none⟩) 1 1))) hF rfl rfl (fun a' hA=>ag rfl) (fun a' hA=>?_) ?_)
      ·have e4:=hA.get 4 rfl
       have e25:=hA.get 25 rfl
       have qq:=cell_of_heap hb4
       have q0:=qq 0
       have q1:=qq 1
       have q2:=qq 2
       have q3:=qq 3
       have q4:=qq 4
       have q5:=qq 5
       simp only [List.getElem?_toArray,List.getElem?_cons_zero,List.getElem?_cons_succ] at q0 q1 q2 q3 q4 q5
       have fz:∀ i,w7.frozen? ⟨b4,i,none⟩=false:=fun i=>by simp [World.frozen?,hb4]
       have f0:=fz 0
       have f1:=fz 1
       have f2:=fz 2
       have f3:=fz 3
       have f4:=fz 4
       have f5:=fz 5
       clear hA hF
       generalize a'.eval=ρ at *
       simp [go_sem,e4,e25,q0,q1,q2,q3,q4,q5,f0,f1,f2,f3,f4,f5]
      refine ⟨fun h=>absurd h (by decide),?_⟩
      refine bG (by kernel_rfl) ?_ _
      have hkb:=HKB.out
      have hown1:w7.ownsRow (w.heap.size+1) 96 6 (.slice (some ⟨kb,0,none⟩) 1 1) [Br.mk ⟨yk,ym,yf,yt,ynp,ynn,ync,yns,ykp,ykn,ykc⟩ yks].length (bU [Br.mk ⟨yk,ym,yf,yt,ynp,ynn,ync,yns,ykp,ykn,ykc⟩ yks]):=eF ((hb7.block _ (Array.getElem?_eq_some_iff.1 hkb.1).1).trans hkb.1) hkb.2.1 rfl (by unfold maxLen; omega)
      have kV:Kids (w.heap.size+1) (.slice (some ⟨kb,0,none⟩) 1 1) w7 [Br.mk ⟨yk,ym,yf,yt,ynp,ynn,ync,yns,ykp,ykn,ykc⟩ yks]:=fun z hz=>by
       obtain rfl:=List.mem_singleton.1 hz
       exact ⟨Ey.out.1.step _ hb7,Ey.out.2.mono (fun q hq=>⟨hq.1,fun e=>hq.2.2 (Option.some.inj (show some q=some (kb) from e))⟩) _⟩
      have HL:=cZ (w0:=w) (w1:=w) 42 0 n n1 (ownsRow_below Hq.out hb7) hown1 kV
      have hon:Br.On (fun q=>w.heap.size+1≤q∧q≠b4) (.mk ⟨42,0,n,n1,np,nn,nc,p.map (fun x:Nat=>(x:Int)),some ⟨kb,0,none⟩,1,1⟩ [Br.mk ⟨yk,ym,yf,yt,ynp,ynn,ync,yns,ykp,ykn,ykc⟩ yks]):=by
       rw [jl]
       refine ⟨fun q _ hq=>⟨?_,Kr.out q (by simpa [Br.h] using hq)⟩,fun q _ hq=>?_,fun z hz=>?_⟩
       ·simp only [Br.h] at hq; subst hq; exact (Hq.out.lt _ rfl).1
       ·simp only [Br.h,Option.some.injEq] at hq; subst hq; exact ⟨hkb.2.1,hkb.2.2⟩
       ·simp only [Br.ks,List.mem_singleton] at hz; subst hz; exact Ey.out.2.mono (fun q hq=>⟨hq.1,hq.2.1⟩) _
      have hlies:Br.Lies ((((((w7.setCell ⟨b4,0,none⟩ (.int .i64 42)).setCell ⟨b4,1,none⟩ (.int .i64 0)).setCell ⟨b4,2,none⟩ (.int .i64 (n:Int))).setCell ⟨b4,3,none⟩ (.int .i64 (n1:Int))).setCell ⟨b4,4,none⟩ (.slice np nn nc)).setCell ⟨b4,5,none⟩ (.slice (some ⟨kb,0,none⟩) 1 1)) (.mk ⟨42,0,n,n1,np,nn,nc,p.map (fun x:Nat=>(x:Int)),some ⟨kb,0,none⟩,1,1⟩ [Br.mk ⟨yk,ym,yf,yt,ynp,ynn,ync,yns,ykp,ykn,ykc⟩ yks]) :=
       Br.Lies.kept (P:=fun q=>w.heap.size+1≤q∧q≠b4) _ hgs.size (fun q hq hlt=>hgs.block q hlt (fun e=>hq.2 (Option.some.inj e))) hon HL.1
      have oJ:=hid (And.intro iL (And.intro hlies (And.intro hon (And.intro ((tu.out.step hb7).grow hgs (fun e=>by have:=Option.some.inj e; omega) (fun e=>by have:=Option.some.inj e; omega)) (And.intro (Array.getElem?_eq_some_iff.1 iL).1 (dL (ae AP.out (grown_below hb7 _)) hgs (fun q hq=>by have:=Option.some.inj hq; simp; omega)))))))
      subst ha0
      simp only [Act.put,List.setIfInBounds_toArray,List.set_cons_zero,List.set_cons_succ]
      clear hF iL hgs hb4 tC hkb hown1 kV HL hon hlies hb7 hS
      generalize ((((((w7.setCell ⟨b4,0,none⟩ (.int .i64 42)).setCell ⟨b4,1,none⟩ (.int .i64 0)).setCell ⟨b4,2,none⟩ (.int .i64 (n:Int))).setCell ⟨b4,3,none⟩ (.int .i64 (n1:Int))).setCell ⟨b4,4,none⟩ (.slice np nn nc)).setCell ⟨b4,5,none⟩ (.slice (some ⟨kb,0,none⟩) 1 1))=w8 at *
      go_wp2_with fail
      go_roundg gk
      case measure=>omega
      case rel=>exact ⟨.mk ⟨42,0,n,n1,np,nn,nc,p.map (fun x:Nat=>(x:Int)),some ⟨kb,0,none⟩,1,1⟩ [Br.mk ⟨yk,ym,yf,yt,ynp,ynn,ync,yns,ykp,ykn,ykc⟩ yks],n1,hid (by rw [jd.out,rO.out]; simp [bind_ok,Br.pb,pbs,node]),hid oJ.out.1,hid oJ.out.2.1,hid oJ.out.2.2.1,hid oJ.out.2.2.2.1,hid oJ.out.2.2.2.2.1,oJ.out.2.2.2.2.2⟩
   ·have jd:Hid (tot=(S.typePath i).bind fun p m1=>dJ S n gk (node 42 n m1 p [Br.pb (Br.mk ⟨yk,ym,yf,yt,ynp,ynn,ync,yns,ykp,ykn,ykc⟩ yks)]) m1):=hid (by rw [tJ.out,h7]; rfl)
    clear tJ
    generalize S.kd i=kdi at *
    go_wp2_with fail
    refine (HK.out _ (Below.refl _ _)).mono ?_
    rintro e w5 ⟨rfl,hb5⟩
    have KG:=hid ((hb5.block b4 vz.out).trans uZ.out)
    have KH:=hid (uO.out.step _ hb5)
    have HR2:=hid (HR.out.step hb5)
    have KI:Hid (b4 < w5.heap.size):=hid (Nat.lt_of_lt_of_le vz.out hb5.size)
    have KJ:=hid (ae rQ.out (grown_below hb5 _))
    have KL:w.heap.size+1≤w5.heap.size:=Nat.le_trans Es hb5.size
    clear hb5 HK uZ uO HR vz rQ Es
    go_wp2_with fail
    obtain ⟨wr,hwr⟩:∃ wr,wr=w5:=⟨_,rfl⟩
    subst hwr
    have uZ:=KG
    have uO:=KH
    have HR:=HR2
    have vz:=KI
    have rQ:=KJ
    have Es:=KL
    clear KG KH HR2 KI KJ KL h7
    refine bn (fun W:World=>W.heap[b4]?=some (.cells #[.int .i64 yk,.int .i64 ym,.int .i64 yf,.int .i64 yt,.slice ynp ynn ync,.slice ykp ykn ykc] 96 (0,0))) 6 (by kernel_rfl) ?_
    have hS:(fun W:World=>W.heap[b4]?=some (.cells #[.int .i64 yk,.int .i64 ym,.int .i64 yf,.int .i64 yt,.slice ynp ynn ync,.slice ykp ykn ykc] 96 (0,0))) wr.drew:=uZ.out
    refine eu (N:=27) [(0,.pointer (some ⟨S.g,0,none⟩)),(3,.int .i64 (n:Int)),(4,.pointer (some ⟨b4,0,none⟩))] (Fs.of rfl rfl (by simp [Act.eval])) ?_
    intro a0 ha0 hF
    refine ay 0 [6,7] (oi:=⟨some 19,.move (.tmp 0),143,"terms.go:179",#[],none⟩) (d:=19) (v:=.pointer (some ⟨S.g,0,none⟩)) hF hS rfl rfl (by decide) (by kernel_rfl) (by kernel_rfl) (by kernel_rfl) (by kernel_rfl) (fun _ _ _ h=>h) (fun a' hA=>ag rfl) (aI rfl rfl) ?_
    clear hF
    intro hF
    refine ay 1 [6,7] (oi:=⟨some 20,.move (.tmp 3),3,"terms.go:179",#[],none⟩) (d:=20) (v:=.int .i64 (n:Int)) hF hS rfl rfl (by decide) (by kernel_rfl) (by kernel_rfl) (by kernel_rfl) (by kernel_rfl) (fun _ _ _ h=>h) (fun a' hA=>ag rfl) (aI rfl rfl) ?_
    clear hF
    intro hF
    refine ay 2 [3,6,7] (oi:=⟨some 21,.move (.tmp 0),143,"terms.go:179",#[],none⟩) (d:=21) (v:=.pointer (some ⟨S.g,0,none⟩)) hF hS rfl rfl (by decide) (by kernel_rfl) (by kernel_rfl) (by kernel_rfl) (by kernel_rfl) (fun _ _ _ h=>h) (fun a' hA=>ag rfl) (aI rfl rfl) ?_
    clear hF
    intro hF
    refine ay 4 [5,6,7] (oi:=⟨some 23,.load 96 (.tmp 4),96,"terms.go:179",#[],none⟩) (d:=23) (v:=.agg #[.int .i64 yk,.int .i64 ym,.int .i64 yf,.int .i64 yt,.slice ynp ynn ync,.slice ykp ykn ykc]) hF hS rfl rfl (by decide) (by kernel_rfl) (by kernel_rfl) (by kernel_rfl) (by kernel_rfl) (fun _ _ _ h=>h) (fun a' hA=>ag rfl) (fun a' hA w' hw=>by have e4:=hA.get 4 rfl; have ec:∀ v,a'.eval (.const v)=v:=fun _=>rfl; have qq:=cell_of_heap hw; have q0:=qq 0; have q1:=qq 1; have q2:=qq 2; have q3:=qq 3; have q4:=qq 4; have q5:=qq 5; simp only [List.getElem?_toArray,List.getElem?_cons_zero,List.getElem?_cons_succ] at q0 q1 q2 q3 q4 q5; clear qq; clear hA; generalize a'.eval=ρ at *; simp [go_sem,ec,e4,q0,q1,q2,q3,q4,q5]; try rfl) ?_
    clear hF
    intro hF
    refine jS 3 5 (by kernel_rfl) (fun _=>?_) (fun _=>?_)
    ·refine cu 3 (oi:=⟨some 22,.call ⟨.value (.func 284),#[.tmp 21],#[143]⟩,23,"terms.go:179",#[⟨2,.data⟩],none⟩) (d:=22) (R:=fun e w'=>Ends S d wr.drew (S.typePath i) (RL wr.drew) e w') hF rfl rfl (by decide) (fun a' hA=>ag rfl) (fun a' hA=>by have e21:=hA.get 21 rfl; have ef:∀ f,a'.eval (.func f)=.func (.func f) #[] #[]:=fun _=>rfl; have ec:∀ v,a'.eval (.const v)=v:=fun _=>rfl; clear hA; generalize a'.eval=ρ at *; simp [go_sem,ef,ec,e21]) (gq S i d wr.drew (HR.out.step (Below.refl wr.heap.size wr).drew) (aF (by rw [← jd.out]; exact fQ.out))) (fun w'=>Ends.noOut) ?_ ?_
     ·rintro ch w' (⟨_,_,_,_,h2,_⟩ | ⟨ch',ho,h2,hg⟩)
      ·cases h2
      ·have h2:=Ending.panicked.inj h2
       subst h2
       have hq:bodyPost prog f299 (fun e w'=>Ends S d w tot (RB w) e w') (.panic ch) _ w':=⟨hF.2.1,Or.inr ⟨ch,by rw [jd.out]; exact aj ho,rfl,ae (grown_below ((Below.refl _ _).alloc (Nat.le_refl _) _) _) (ae (ae rQ.out (grown_below (Below.refl wr.heap.size wr).drew _)) hg)⟩⟩
       exact hq
     rintro v w5 (⟨p,n1,v',hpo,h2,hv,uC,hg5⟩ | ⟨_,_,h2,_⟩) hF2
     rotate_left
     ·cases h2
     have h2:=Ending.returned.inj h2
     subst h2
     obtain ⟨np,nn,nc,rfl⟩:=hv.form
     have hF:=hF2
     clear hF2
     have hs5:wr.heap.size≤w5.heap.size:=hg5.size
     have oK:w5.heap[b4]?=some (.cells #[.int .i64 yk,.int .i64 ym,.int .i64 yf,.int .i64 yt,.slice ynp ynn ync,.slice ykp ykn ykc] 96 (0,0)):=(hg5.block b4 vz.out (fun e=>Hr (Option.some.inj e))).trans uZ.out
     refine ⟨fun _=>oK,?_⟩
     refine ax 5 (by kernel_rfl) (dM 5 (oi:=⟨some 24,.buildSlice 94 1 #[(0,.tmp 23)],94,"terms.go:179",#[⟨4,.data⟩],none⟩) (d:=24) (v:=.slice (some ⟨w5.heap.size,0,none⟩) 1 1) (w':=w5.alloc (.cells #[.int .i64 yk,.int .i64 ym,.int .i64 yf,.int .i64 yt,.slice ynp ynn ync,.slice ykp ykn ykc] 96)) hF rfl rfl (by decide) (fun a' hA=>ag rfl) (fun a' hA=>by have e23:=hA.get 23 rfl; have ec:∀ v,a'.eval (.const v)=v:=fun _=>rfl; clear hA; generalize a'.eval=ρ at *; simp [go_sem,ec,e23]; try rfl) ?_)
     clear hF
     intro hF
     have tN:Below w5.heap.size w5 (w5.alloc (.cells #[.int .i64 yk,.int .i64 ym,.int .i64 yf,.int .i64 yt,.slice ynp ynn ync,.slice ykp ykn ykc] 96)):=(Below.refl _ _).alloc (Nat.le_refl _) _
     have tC:(w5.alloc (.cells #[.int .i64 yk,.int .i64 ym,.int .i64 yf,.int .i64 yt,.slice ynp ynn ync,.slice ykp ykn ykc] 96)).heap[b4]?=some (.cells #[.int .i64 yk,.int .i64 ym,.int .i64 yf,.int .i64 yt,.slice ynp ynn ync,.slice ykp ykn ykc] 96 (0,0)):=(tN.block b4 (Array.getElem?_eq_some_iff.1 oK).1).trans oK
     refine ⟨fun _=>tC,?_⟩
     have hgb:S.g < w.heap.size+1:=by omega
     have HKB:Hid ((w5.alloc (.cells #[.int .i64 yk,.int .i64 ym,.int .i64 yf,.int .i64 yt,.slice ynp ynn ync,.slice ykp ykn ykc] 96)).heap[w5.heap.size]?=some (.cells #[.int .i64 yk,.int .i64 ym,.int .i64 yf,.int .i64 yt,.slice ynp ynn ync,.slice ykp ykn ykc] 96 (0,0))∧w.heap.size+1≤w5.heap.size∧w5.heap.size≠b4):=hid ⟨heap_alloc_new w5 (.cells #[.int .i64 yk,.int .i64 ym,.int .i64 yf,.int .i64 yt,.slice ynp ynn ync,.slice ykp ykn ykc] 96),by omega,by have:=vz.out; omega⟩
     have Hq:=hid (own_base (base':=w.heap.size+1) (ownsRow_below hv tN) Es)
     have Kr:Hid (∀ q,np=some q→q.block≠b4):=hid (fun q hq=>by subst hq; have h1:=(hv.lt _ rfl).1; have h3:=vz.out; have h4:wr.heap.size≤q.block:=h1; omega)
     have tu:=hid (uC.step tN)
     have AP:=hid (ae (ae (ae rQ.out (grown_below (Below.refl wr.heap.size wr).drew _)) hg5) (grown_below tN _))
     have rU:Br.Lies w5 (Br.mk ⟨yk,ym,yf,yt,ynp,ynn,ync,yns,ykp,ykn,ykc⟩ yks):=Br.Lies.kept (P:=fun q=>w.heap.size+1≤q∧q≠b4) _ hs5 (fun q hq hlt=>hg5.block q hlt (fun e=>by have:=Option.some.inj e; omega)) uD.out uO.out
     have Ey:Hid (Br.Lies (w5.alloc (.cells #[.int .i64 yk,.int .i64 ym,.int .i64 yf,.int .i64 yt,.slice ynp ynn ync,.slice ykp ykn ykc] 96)) (Br.mk ⟨yk,ym,yf,yt,ynp,ynn,ync,yns,ykp,ykn,ykc⟩ yks)∧Br.On (fun q=>w.heap.size+1≤q∧q≠b4∧q≠w5.heap.size) (Br.mk ⟨yk,ym,yf,yt,ynp,ynn,ync,yns,ykp,ykn,ykc⟩ yks)):=hid ⟨rU.step _ tN,(Br.On.low _ uD.out uO.out).mono (fun q hq=>⟨hq.1.1,hq.1.2,by have:=hq.2; omega⟩) _⟩
     have rO:=hid hpo
     generalize hkb:w5.heap.size=kb at *
     clear hkb hv uC hg5 hpo rU oK tN hS
     have hS:True:=trivial
     generalize w5.alloc (.cells #[.int .i64 yk,.int .i64 ym,.int .i64 yf,.int .i64 yt,.slice ynp ynn ync,.slice ykp ykn ykc] 96)=w6 at *
     refine lT 6 (oi:=⟨some 25,.call ⟨.value (.func 121),#[.tmp 19,.const (.int .i64 42),.tmp 20,.tmp 22,.tmp 24],#[143,3,3,23,94]⟩,96,"terms.go:179",#[⟨0,.data⟩,⟨1,.data⟩,⟨3,.data⟩,⟨5,.data⟩,⟨3,.chain⟩],none⟩) (d:=25) (R:=fun e w'=>e=.returned (.agg #[.int .i64 42,.int .i64 0,.int .i64 (n:Int),.int .i64 (n1:Int),.slice np nn nc,.slice (some ⟨kb,0,none⟩) 1 1])∧Below w6.heap.size w6 w') hF rfl rfl (by decide) (by kernel_rfl) (fun a' hA=>ag rfl) (fun a' hA=>by have e19:=hA.get 19 rfl; have e20:=hA.get 20 rfl; have e22:=hA.get 22 rfl; have e24:=hA.get 24 rfl; have ef:∀ f,a'.eval (.func f)=.func (.func f) #[] #[]:=fun _=>rfl; have ec:∀ v,a'.eval (.const v)=v:=fun _=>rfl; clear hA; generalize a'.eval=ρ at *; simp [go_sem,ef,ec,e19,e20,e22,e24]) (aC S n1 d 42 n np nn nc (some ⟨kb,0,none⟩) 1 1 w6 tu.out) (by rintro w' ⟨h,_⟩; cases h) ?_ ?_
     ·rintro ch w' ⟨h,_⟩
      cases h
     rintro v w7 ⟨h,hb7⟩
     have h:=Ending.returned.inj h
     subst h
     refine ⟨fun h=>absurd h (by decide),?_⟩
     clear hF
     intro hF
     have hb4:=(hb7.block b4 (Array.getElem?_eq_some_iff.1 tC).1).trans tC
     obtain ⟨iL,hgs⟩:=iZ hb4 (.int .i64 42) (.int .i64 0) (.int .i64 (n:Int)) (.int .i64 (n1:Int)) (.slice np nn nc) (.slice (some ⟨kb,0,none⟩) 1 1)
     refine ax 7 (by kernel_rfl) (dU 7 (oi:=⟨none,.store 96 (.tmp 4) (.tmp 25),0,"terms.go:179",#[⟨6,.data⟩,⟨6,.chain⟩,⟨0,.phase⟩,⟨1,.phase⟩,⟨2,.phase⟩,⟨3,.phase⟩,⟨4,.phase⟩,⟨5,.phase⟩,⟨6,.phase⟩],none⟩) (w':=((((((w7.setCell ⟨b4,0,none⟩ (.int .i64 42)).setCell ⟨b4,1,none⟩ (.int .i64 0)).setCell ⟨b4,2,none⟩ (.int .i64 (n:Int))).setCell ⟨b4,3,none⟩ (.int .i64 (n1:Int))).setCell ⟨b4,4,none⟩ (.slice np nn nc)).setCell ⟨b4,5,none⟩ (.slice (some ⟨kb,0,none⟩) 1 1))) hF rfl rfl (fun a' hA=>ag rfl) (fun a' hA=>?_) ?_)
     ·have e4:=hA.get 4 rfl
      have e25:=hA.get 25 rfl
      have qq:=cell_of_heap hb4
      have q0:=qq 0
      have q1:=qq 1
      have q2:=qq 2
      have q3:=qq 3
      have q4:=qq 4
      have q5:=qq 5
      simp only [List.getElem?_toArray,List.getElem?_cons_zero,List.getElem?_cons_succ] at q0 q1 q2 q3 q4 q5
      have fz:∀ i,w7.frozen? ⟨b4,i,none⟩=false:=fun i=>by simp [World.frozen?,hb4]
      have f0:=fz 0
      have f1:=fz 1
      have f2:=fz 2
      have f3:=fz 3
      have f4:=fz 4
      have f5:=fz 5
      clear hA hF
      generalize a'.eval=ρ at *
      simp [go_sem,e4,e25,q0,q1,q2,q3,q4,q5,f0,f1,f2,f3,f4,f5]
     refine ⟨fun h=>absurd h (by decide),?_⟩
     refine bG (by kernel_rfl) ?_ _
     have hkb:=HKB.out
     have hown1:w7.ownsRow (w.heap.size+1) 96 6 (.slice (some ⟨kb,0,none⟩) 1 1) [Br.mk ⟨yk,ym,yf,yt,ynp,ynn,ync,yns,ykp,ykn,ykc⟩ yks].length (bU [Br.mk ⟨yk,ym,yf,yt,ynp,ynn,ync,yns,ykp,ykn,ykc⟩ yks]):=eF ((hb7.block _ (Array.getElem?_eq_some_iff.1 hkb.1).1).trans hkb.1) hkb.2.1 rfl (by unfold maxLen; omega)
     have kV:Kids (w.heap.size+1) (.slice (some ⟨kb,0,none⟩) 1 1) w7 [Br.mk ⟨yk,ym,yf,yt,ynp,ynn,ync,yns,ykp,ykn,ykc⟩ yks]:=fun z hz=>by
      obtain rfl:=List.mem_singleton.1 hz
      exact ⟨Ey.out.1.step _ hb7,Ey.out.2.mono (fun q hq=>⟨hq.1,fun e=>hq.2.2 (Option.some.inj (show some q=some (kb) from e))⟩) _⟩
     have HL:=cZ (w0:=w) (w1:=w) 42 0 n n1 (ownsRow_below Hq.out hb7) hown1 kV
     have hon:Br.On (fun q=>w.heap.size+1≤q∧q≠b4) (.mk ⟨42,0,n,n1,np,nn,nc,p.map (fun x:Nat=>(x:Int)),some ⟨kb,0,none⟩,1,1⟩ [Br.mk ⟨yk,ym,yf,yt,ynp,ynn,ync,yns,ykp,ykn,ykc⟩ yks]):=by
      rw [jl]
      refine ⟨fun q _ hq=>⟨?_,Kr.out q (by simpa [Br.h] using hq)⟩,fun q _ hq=>?_,fun z hz=>?_⟩
      ·simp only [Br.h] at hq; subst hq; exact (Hq.out.lt _ rfl).1
      ·simp only [Br.h,Option.some.injEq] at hq; subst hq; exact ⟨hkb.2.1,hkb.2.2⟩
      ·simp only [Br.ks,List.mem_singleton] at hz; subst hz; exact Ey.out.2.mono (fun q hq=>⟨hq.1,hq.2.1⟩) _
     have hlies:Br.Lies ((((((w7.setCell ⟨b4,0,none⟩ (.int .i64 42)).setCell ⟨b4,1,none⟩ (.int .i64 0)).setCell ⟨b4,2,none⟩ (.int .i64 (n:Int))).setCell ⟨b4,3,none⟩ (.int .i64 (n1:Int))).setCell ⟨b4,4,none⟩ (.slice np nn nc)).setCell ⟨b4,5,none⟩ (.slice (some ⟨kb,0,none⟩) 1 1)) (.mk ⟨42,0,n,n1,np,nn,nc,p.map (fun x:Nat=>(x:Int)),some ⟨kb,0,none⟩,1,1⟩ [Br.mk ⟨yk,ym,yf,yt,ynp,ynn,ync,yns,ykp,ykn,ykc⟩ yks]) :=
      Br.Lies.kept (P:=fun q=>w.heap.size+1≤q∧q≠b4) _ hgs.size (fun q hq hlt=>hgs.block q hlt (fun e=>hq.2 (Option.some.inj e))) hon HL.1
     have oJ:=hid (And.intro iL (And.intro hlies (And.intro hon (And.intro ((tu.out.step hb7).grow hgs (fun e=>by have:=Option.some.inj e; omega) (fun e=>by have:=Option.some.inj e; omega)) (And.intro (Array.getElem?_eq_some_iff.1 iL).1 (dL (ae AP.out (grown_below hb7 _)) hgs (fun q hq=>by have:=Option.some.inj hq; simp; omega)))))))
     subst ha0
     simp only [Act.put,List.setIfInBounds_toArray,List.set_cons_zero,List.set_cons_succ]
     clear hF iL hgs hb4 tC hkb hown1 kV HL hon hlies hb7 hS
     generalize ((((((w7.setCell ⟨b4,0,none⟩ (.int .i64 42)).setCell ⟨b4,1,none⟩ (.int .i64 0)).setCell ⟨b4,2,none⟩ (.int .i64 (n:Int))).setCell ⟨b4,3,none⟩ (.int .i64 (n1:Int))).setCell ⟨b4,4,none⟩ (.slice np nn nc)).setCell ⟨b4,5,none⟩ (.slice (some ⟨kb,0,none⟩) 1 1))=w8 at *
     go_wp2_with fail
     go_roundg gk
     case measure=>omega
     case rel=>exact ⟨.mk ⟨42,0,n,n1,np,nn,nc,p.map (fun x:Nat=>(x:Int)),some ⟨kb,0,none⟩,1,1⟩ [Br.mk ⟨yk,ym,yf,yt,ynp,ynn,ync,yns,ykp,ykn,ykc⟩ yks],n1,hid (by rw [jd.out,rO.out]; simp [bind_ok,Br.pb,pbs,node]),hid oJ.out.1,hid oJ.out.2.1,hid oJ.out.2.2.1,hid oJ.out.2.2.2.1,hid oJ.out.2.2.2.2.1,oJ.out.2.2.2.2.2⟩
    ·refine dM 5 (oi:=⟨some 24,.buildSlice 94 1 #[(0,.tmp 23)],94,"terms.go:179",#[⟨4,.data⟩],none⟩) (d:=24) (v:=.slice (some ⟨wr.heap.size,0,none⟩) 1 1) (w':=wr.drew.alloc (.cells #[.int .i64 yk,.int .i64 ym,.int .i64 yf,.int .i64 yt,.slice ynp ynn ync,.slice ykp ykn ykc] 96)) hF rfl rfl (by decide) (fun a' hA=>ag rfl) (fun a' hA=>by have e23:=hA.get 23 rfl; have ec:∀ v,a'.eval (.const v)=v:=fun _=>rfl; clear hA; generalize a'.eval=ρ at *; simp [go_sem,ec,e23]; try rfl) ?_
     clear hF
     intro hF
     have oK:Below wr.heap.size wr (wr.drew.alloc (.cells #[.int .i64 yk,.int .i64 ym,.int .i64 yf,.int .i64 yt,.slice ynp ynn ync,.slice ykp ykn ykc] 96)):=(Below.refl wr.heap.size wr).drew.alloc (Nat.le_refl _) _
     have hK5:(wr.drew.alloc (.cells #[.int .i64 yk,.int .i64 ym,.int .i64 yf,.int .i64 yt,.slice ynp ynn ync,.slice ykp ykn ykc] 96)).heap[wr.heap.size]?=some (.cells #[.int .i64 yk,.int .i64 ym,.int .i64 yf,.int .i64 yt,.slice ynp ynn ync,.slice ykp ykn ykc] 96 (0,0)):=heap_alloc_new wr.drew (.cells #[.int .i64 yk,.int .i64 ym,.int .i64 yf,.int .i64 yt,.slice ynp ynn ync,.slice ykp ykn ykc] 96)
     have RF:(wr.drew.alloc (.cells #[.int .i64 yk,.int .i64 ym,.int .i64 yf,.int .i64 yt,.slice ynp ynn ync,.slice ykp ykn ykc] 96)).heap[b4]?=some (.cells #[.int .i64 yk,.int .i64 ym,.int .i64 yf,.int .i64 yt,.slice ynp ynn ync,.slice ykp ykn ykc] 96 (0,0)):=(oK.block b4 vz.out).trans uZ.out
     have Hm:(wr.drew.alloc (.cells #[.int .i64 yk,.int .i64 ym,.int .i64 yf,.int .i64 yt,.slice ynp ynn ync,.slice ykp ykn ykc] 96)).heap.size=wr.heap.size+1:=by simp
     refine ⟨fun _=>RF,?_⟩
     have mY:=hid (HR.out.step oK)
     generalize wr.drew.alloc (.cells #[.int .i64 yk,.int .i64 ym,.int .i64 yf,.int .i64 yt,.slice ynp ynn ync,.slice ykp ykn ykc] 96)=w5 at *
     refine ax 3 (by kernel_rfl) (cu 3 (oi:=⟨some 22,.call ⟨.value (.func 284),#[.tmp 21],#[143]⟩,23,"terms.go:179",#[⟨2,.data⟩],none⟩) (d:=22) (R:=fun e w'=>Ends S d w5 (S.typePath i) (RL w5) e w') hF rfl rfl (by decide) (fun a' hA=>ag rfl) (fun a' hA=>by have e21:=hA.get 21 rfl; have ef:∀ f,a'.eval (.func f)=.func (.func f) #[] #[]:=fun _=>rfl; have ec:∀ v,a'.eval (.const v)=v:=fun _=>rfl; clear hA; generalize a'.eval=ρ at *; simp [go_sem,ef,ec,e21]) (gq S i d w5 mY.out (aF (by rw [← jd.out]; exact fQ.out))) (fun w'=>Ends.noOut) ?_ ?_)
     ·rintro ch w' (⟨_,_,_,_,h2,_⟩ | ⟨ch',ho,h2,hg⟩)
      ·cases h2
      ·have h2:=Ending.panicked.inj h2
       subst h2
       have hq:bodyPost prog f299 (fun e w'=>Ends S d w tot (RB w) e w') (.panic ch) _ w':=⟨hF.2.1,Or.inr ⟨ch,by rw [jd.out]; exact aj ho,rfl,ae (grown_below ((Below.refl _ _).alloc (Nat.le_refl _) _) _) (ae (ae rQ.out (grown_below oK _)) hg)⟩⟩
       exact hq
     rintro v w6 (⟨p,n1,v',hpo,h2,hv,Ew,rP⟩ | ⟨_,_,h2,_⟩) hF2
     rotate_left
     ·cases h2
     have h2:=Ending.returned.inj h2
     subst h2
     obtain ⟨np,nn,nc,rfl⟩:=hv.form
     have hF:=hF2
     clear hF2
     have tC:w6.heap[b4]?=some (.cells #[.int .i64 yk,.int .i64 ym,.int .i64 yf,.int .i64 yt,.slice ynp ynn ync,.slice ykp ykn ykc] 96 (0,0)):=(rP.block b4 (by have:=vz.out; omega) (fun e=>Hr (Option.some.inj e))).trans RF
     refine ⟨fun _=>tC,?_⟩
     have hs6:w5.heap.size≤w6.heap.size:=rP.size
     have HKB:Hid (w6.heap[wr.heap.size]?=some (.cells #[.int .i64 yk,.int .i64 ym,.int .i64 yf,.int .i64 yt,.slice ynp ynn ync,.slice ykp ykn ykc] 96 (0,0))∧w.heap.size+1≤wr.heap.size∧wr.heap.size≠b4):=hid ⟨(rP.block wr.heap.size (by omega) (fun e=>by have:=Option.some.inj e; omega)).trans hK5,by omega,by have:=vz.out; omega⟩
     have Hq:=hid (own_base (base':=w.heap.size+1) hv (by omega))
     have Kr:Hid (∀ q,np=some q→q.block≠b4):=hid (fun q hq=>by subst hq; have h1:=(hv.lt _ rfl).1; have h3:=vz.out; omega)
     have tu:=hid Ew
     have AP:=hid (ae (ae rQ.out (grown_below oK _)) rP)
     have rU:Br.Lies w6 (Br.mk ⟨yk,ym,yf,yt,ynp,ynn,ync,yns,ykp,ykn,ykc⟩ yks):=Br.Lies.kept (P:=fun q=>w.heap.size+1≤q∧q≠b4) _ hs6 (fun q hq hlt=>rP.block q hlt (fun e=>by have:=Option.some.inj e; omega)) uD.out (uO.out.step _ oK)
     have Ey:Hid (Br.Lies w6 (Br.mk ⟨yk,ym,yf,yt,ynp,ynn,ync,yns,ykp,ykn,ykc⟩ yks)∧Br.On (fun q=>w.heap.size+1≤q∧q≠b4∧q≠wr.heap.size) (Br.mk ⟨yk,ym,yf,yt,ynp,ynn,ync,yns,ykp,ykn,ykc⟩ yks)):=hid ⟨rU,(Br.On.low _ uD.out uO.out).mono (fun q hq=>⟨hq.1.1,hq.1.2,by have:=hq.2; omega⟩) _⟩
     have rO:=hid hpo
     generalize hkb:wr.heap.size=kb at *
     clear hkb hv Ew rP hpo rU oK RF hK5 Hm hS
     have hS:True:=trivial
     refine lT 6 (oi:=⟨some 25,.call ⟨.value (.func 121),#[.tmp 19,.const (.int .i64 42),.tmp 20,.tmp 22,.tmp 24],#[143,3,3,23,94]⟩,96,"terms.go:179",#[⟨0,.data⟩,⟨1,.data⟩,⟨3,.data⟩,⟨5,.data⟩,⟨3,.chain⟩],none⟩) (d:=25) (R:=fun e w'=>e=.returned (.agg #[.int .i64 42,.int .i64 0,.int .i64 (n:Int),.int .i64 (n1:Int),.slice np nn nc,.slice (some ⟨kb,0,none⟩) 1 1])∧Below w6.heap.size w6 w') hF rfl rfl (by decide) (by kernel_rfl) (fun a' hA=>ag rfl) (fun a' hA=>by have e19:=hA.get 19 rfl; have e20:=hA.get 20 rfl; have e22:=hA.get 22 rfl; have e24:=hA.get 24 rfl; have ef:∀ f,a'.eval (.func f)=.func (.func f) #[] #[]:=fun _=>rfl; have ec:∀ v,a'.eval (.const v)=v:=fun _=>rfl; clear hA; generalize a'.eval=ρ at *; simp [go_sem,ef,ec,e19,e20,e22,e24]) (aC S n1 d 42 n np nn nc (some ⟨kb,0,none⟩) 1 1 w6 tu.out) (by rintro w' ⟨h,_⟩; cases h) ?_ ?_
     ·rintro ch w' ⟨h,_⟩
      cases h
     rintro v w7 ⟨h,hb7⟩
     have h:=Ending.returned.inj h
     subst h
     refine ⟨fun h=>absurd h (by decide),?_⟩
     clear hF
     intro hF
     have hb4:=(hb7.block b4 (Array.getElem?_eq_some_iff.1 tC).1).trans tC
     obtain ⟨iL,hgs⟩:=iZ hb4 (.int .i64 42) (.int .i64 0) (.int .i64 (n:Int)) (.int .i64 (n1:Int)) (.slice np nn nc) (.slice (some ⟨kb,0,none⟩) 1 1)
     refine ax 7 (by kernel_rfl) (dU 7 (oi:=⟨none,.store 96 (.tmp 4) (.tmp 25),0,"terms.go:179",#[⟨6,.data⟩,⟨6,.chain⟩,⟨0,.phase⟩,⟨1,.phase⟩,⟨2,.phase⟩,⟨3,.phase⟩,⟨4,.phase⟩,⟨5,.phase⟩,⟨6,.phase⟩],none⟩) (w':=((((((w7.setCell ⟨b4,0,none⟩ (.int .i64 42)).setCell ⟨b4,1,none⟩ (.int .i64 0)).setCell ⟨b4,2,none⟩ (.int .i64 (n:Int))).setCell ⟨b4,3,none⟩ (.int .i64 (n1:Int))).setCell ⟨b4,4,none⟩ (.slice np nn nc)).setCell ⟨b4,5,none⟩ (.slice (some ⟨kb,0,none⟩) 1 1))) hF rfl rfl (fun a' hA=>ag rfl) (fun a' hA=>?_) ?_)
     ·have e4:=hA.get 4 rfl
      have e25:=hA.get 25 rfl
      have qq:=cell_of_heap hb4
      have q0:=qq 0
      have q1:=qq 1
      have q2:=qq 2
      have q3:=qq 3
      have q4:=qq 4
      have q5:=qq 5
      simp only [List.getElem?_toArray,List.getElem?_cons_zero,List.getElem?_cons_succ] at q0 q1 q2 q3 q4 q5
      have fz:∀ i,w7.frozen? ⟨b4,i,none⟩=false:=fun i=>by simp [World.frozen?,hb4]
      have f0:=fz 0
      have f1:=fz 1
      have f2:=fz 2
      have f3:=fz 3
      have f4:=fz 4
      have f5:=fz 5
      clear hA hF
      generalize a'.eval=ρ at *
      simp [go_sem,e4,e25,q0,q1,q2,q3,q4,q5,f0,f1,f2,f3,f4,f5]
     refine ⟨fun h=>absurd h (by decide),?_⟩
     refine bG (by kernel_rfl) ?_ _
     have hkb:=HKB.out
     have hown1:w7.ownsRow (w.heap.size+1) 96 6 (.slice (some ⟨kb,0,none⟩) 1 1) [Br.mk ⟨yk,ym,yf,yt,ynp,ynn,ync,yns,ykp,ykn,ykc⟩ yks].length (bU [Br.mk ⟨yk,ym,yf,yt,ynp,ynn,ync,yns,ykp,ykn,ykc⟩ yks]):=eF ((hb7.block _ (Array.getElem?_eq_some_iff.1 hkb.1).1).trans hkb.1) hkb.2.1 rfl (by unfold maxLen; omega)
     have kV:Kids (w.heap.size+1) (.slice (some ⟨kb,0,none⟩) 1 1) w7 [Br.mk ⟨yk,ym,yf,yt,ynp,ynn,ync,yns,ykp,ykn,ykc⟩ yks]:=fun z hz=>by
      obtain rfl:=List.mem_singleton.1 hz
      exact ⟨Ey.out.1.step _ hb7,Ey.out.2.mono (fun q hq=>⟨hq.1,fun e=>hq.2.2 (Option.some.inj (show some q=some (kb) from e))⟩) _⟩
     have HL:=cZ (w0:=w) (w1:=w) 42 0 n n1 (ownsRow_below Hq.out hb7) hown1 kV
     have hon:Br.On (fun q=>w.heap.size+1≤q∧q≠b4) (.mk ⟨42,0,n,n1,np,nn,nc,p.map (fun x:Nat=>(x:Int)),some ⟨kb,0,none⟩,1,1⟩ [Br.mk ⟨yk,ym,yf,yt,ynp,ynn,ync,yns,ykp,ykn,ykc⟩ yks]):=by
      rw [jl]
      refine ⟨fun q _ hq=>⟨?_,Kr.out q (by simpa [Br.h] using hq)⟩,fun q _ hq=>?_,fun z hz=>?_⟩
      ·simp only [Br.h] at hq; subst hq; exact (Hq.out.lt _ rfl).1
      ·simp only [Br.h,Option.some.injEq] at hq; subst hq; exact ⟨hkb.2.1,hkb.2.2⟩
      ·simp only [Br.ks,List.mem_singleton] at hz; subst hz; exact Ey.out.2.mono (fun q hq=>⟨hq.1,hq.2.1⟩) _
     have hlies:Br.Lies ((((((w7.setCell ⟨b4,0,none⟩ (.int .i64 42)).setCell ⟨b4,1,none⟩ (.int .i64 0)).setCell ⟨b4,2,none⟩ (.int .i64 (n:Int))).setCell ⟨b4,3,none⟩ (.int .i64 (n1:Int))).setCell ⟨b4,4,none⟩ (.slice np nn nc)).setCell ⟨b4,5,none⟩ (.slice (some ⟨kb,0,none⟩) 1 1)) (.mk ⟨42,0,n,n1,np,nn,nc,p.map (fun x:Nat=>(x:Int)),some ⟨kb,0,none⟩,1,1⟩ [Br.mk ⟨yk,ym,yf,yt,ynp,ynn,ync,yns,ykp,ykn,ykc⟩ yks]) :=
      Br.Lies.kept (P:=fun q=>w.heap.size+1≤q∧q≠b4) _ hgs.size (fun q hq hlt=>hgs.block q hlt (fun e=>hq.2 (Option.some.inj e))) hon HL.1
     have oJ:=hid (And.intro iL (And.intro hlies (And.intro hon (And.intro ((tu.out.step hb7).grow hgs (fun e=>by have:=Option.some.inj e; omega) (fun e=>by have:=Option.some.inj e; omega)) (And.intro (Array.getElem?_eq_some_iff.1 iL).1 (dL (ae AP.out (grown_below hb7 _)) hgs (fun q hq=>by have:=Option.some.inj hq; simp; omega)))))))
     subst ha0
     simp only [Act.put,List.setIfInBounds_toArray,List.set_cons_zero,List.set_cons_succ]
     clear hF iL hgs hb4 tC hkb hown1 kV HL hon hlies hb7 hS
     generalize ((((((w7.setCell ⟨b4,0,none⟩ (.int .i64 42)).setCell ⟨b4,1,none⟩ (.int .i64 0)).setCell ⟨b4,2,none⟩ (.int .i64 (n:Int))).setCell ⟨b4,3,none⟩ (.int .i64 (n1:Int))).setCell ⟨b4,4,none⟩ (.slice np nn nc)).setCell ⟨b4,5,none⟩ (.slice (some ⟨kb,0,none⟩) 1 1))=w8 at *
     go_wp2_with fail
     go_roundg gk
     case measure=>omega
     case rel=>exact ⟨.mk ⟨42,0,n,n1,np,nn,nc,p.map (fun x:Nat=>(x:Int)),some ⟨kb,0,none⟩,1,1⟩ [Br.mk ⟨yk,ym,yf,yt,ynp,ynn,ync,yns,ykp,ykn,ykc⟩ yks],n1,hid (by rw [jd.out,rO.out]; simp [bind_ok,Br.pb,pbs,node]),hid oJ.out.1,hid oJ.out.2.1,hid oJ.out.2.2.1,hid oJ.out.2.2.2.1,hid oJ.out.2.2.2.2.1,oJ.out.2.2.2.2.2⟩
 ·exact ⟨rfl,Or.inr ⟨ch,by rw [fJ.out]; exact aj ho,rfl,ae (grown_below ((Below.refl _ _).alloc (Nat.le_refl _) _) _) hg2⟩⟩
theorem aA {W:World} {g:Nat} {cs:Array Value} {E:Nat} (h:W.heap[g]?=some (.cells cs E (0,0))) (i:Nat):W.frozen? ⟨g,i,none⟩=false:=by simp [World.frozen?,h]
set_option maxHeartbeats 1000000 in
theorem P8 (S:Src) (F:Nat) (rec:Nt→Nat→Nat→Out Pb) (d:Nat) (hs:Said S rec d) (jY:F≤1000000000) (bx n:Nat) (w:World) (h:Rd w S n d) (hbx:w.heap[bx]?=some (.cells #[.pointer (some ⟨S.g,0,none⟩)] 143 (0,0))) (hbg:bx≠S.g) (aJ:tyO S F rec d n≠.dry) :
  Calls prog 276 #[.int .i64 (n:Int),.pointer (some ⟨bx,0,none⟩)] w fun e w'=>Ends S d w (tyO S F rec d n) (RB w) e w':=by
 have hgl:=h.lt
 have bi:=h.row
 have hb1:Below w.heap.size w (w.alloc aK):=(Below.refl w.heap.size w).alloc (Nat.le_refl _) _
 have hr1:=h.step hb1
 have hxl:bx < w.heap.size:=(Array.getElem?_eq_some_iff.1 hbx).1
 have hB1:=(hb1.block bx hxl).trans hbx
 have qb:(w.alloc aK).cell? ⟨bx,0,none⟩=some (.pointer (some ⟨S.g,0,none⟩)):=cell_of_heap hB1 0
 have hgz:w.heap.size+1≤(w.alloc aK).heap.size:=by simp
 unfold tyO at aJ ⊢
 have HP:=hid (fun w' (hr:Rd w' S n d)=>CV S F rec d jY (fun k w hr hnd=>BB S F rec d hs jY k w hr hnd) n w' hr (aF aJ))
 have fQ:=hid aJ
 have HR1:=hid hr1
 have HB1:=hid hB1
 obtain ⟨tot,htot⟩:∃ tot,tot=(dX S F rec d n).bind fun b n1=>bif S.is n1 [45,62] then (rec .ty d (n1+1)).bind fun c n2=>.ok (node 43 n n2 [] [b,c]) n2 else .ok b n1:=⟨_,rfl⟩
 rw [← htot] at fQ ⊢
 have fJ:=hid htot
 clear hr1 hb1 h aJ htot hB1 hbx
 go_enter func276,ntmps276
 go_wp2_with fail
 refine (HP.out _ HR1.out).mono ?_
 rintro e w2 (⟨b,n2,v,hpo,rfl,⟨y,rfl,hyl,hyo,hyp⟩,hr2,hg2⟩ | ⟨ch,ho,rfl,hg2⟩)
 ·obtain ⟨⟨yk,ym,yf,yt,ynp,ynn,ync,yns,ykp,ykn,ykc⟩,yks⟩:=y
  have hz2:w.heap.size+1≤w2.heap.size:=by have:=hg2.size; simpa using this
  have hb3:Below w2.heap.size w2 (w2.alloc (.cells #[.int .i64 0,.int .i64 0,.int .i64 0,.int .i64 0,.slice none 0 0,.slice none 0 0] 96)):=(Below.refl _ _).alloc (Nat.le_refl _) _
  have uN:=heap_alloc_new w2 (.cells #[.int .i64 0,.int .i64 0,.int .i64 0,.int .i64 0,.slice none 0 0,.slice none 0 0] 96)
  obtain ⟨iL,hgs⟩:=iZ uN (.int .i64 yk) (.int .i64 ym) (.int .i64 yf) (.int .i64 yt) (.slice ynp ynn ync) (.slice ykp ykn ykc)
  have hn1:¬ S.g=w2.heap.size:=by omega
  have hn2:¬ w2.heap.size=S.g:=by omega
  have hn3:¬ bx=w2.heap.size:=by omega
  have hn4:¬ w2.heap.size=bx:=by omega
  have hr3:=(hr2.step hb3).grow hgs (fun e=>by have:=Option.some.inj e; omega) (fun e=>by have:=Option.some.inj e; omega)
  have hx2:=(hg2.block bx (by simp; omega) (fun e=>hbg (Option.some.inj e))).trans HB1.out
  have hx3:=(hgs.block bx (by simp; omega) (fun e=>hn3 (Option.some.inj e))).trans ((hb3.block bx (by omega)).trans hx2)
  have qx3:(((((((w2.alloc (.cells #[.int .i64 0,.int .i64 0,.int .i64 0,.int .i64 0,.slice none 0 0,.slice none 0 0] 96)).setCell ⟨w2.heap.size,0,none⟩ (.int .i64 yk)).setCell ⟨w2.heap.size,1,none⟩ (.int .i64 ym)).setCell ⟨w2.heap.size,2,none⟩ (.int .i64 yf)).setCell ⟨w2.heap.size,3,none⟩ (.int .i64 yt)).setCell ⟨w2.heap.size,4,none⟩ (.slice ynp ynn ync)).setCell ⟨w2.heap.size,5,none⟩ (.slice ykp ykn ykc)).cell? ⟨bx,0,none⟩=some (.pointer (some ⟨S.g,0,none⟩)):=cell_of_heap hx3 0
  have KN:=Br.On.low _ hyo hyl
  have KO:Br.Lies (((((((w2.alloc (.cells #[.int .i64 0,.int .i64 0,.int .i64 0,.int .i64 0,.slice none 0 0,.slice none 0 0] 96)).setCell ⟨w2.heap.size,0,none⟩ (.int .i64 yk)).setCell ⟨w2.heap.size,1,none⟩ (.int .i64 ym)).setCell ⟨w2.heap.size,2,none⟩ (.int .i64 yf)).setCell ⟨w2.heap.size,3,none⟩ (.int .i64 yt)).setCell ⟨w2.heap.size,4,none⟩ (.slice ynp ynn ync)).setCell ⟨w2.heap.size,5,none⟩ (.slice ykp ykn ykc)) (Br.mk ⟨yk,ym,yf,yt,ynp,ynn,ync,yns,ykp,ykn,ykc⟩ yks):=Br.Lies.kept (P:=fun q=>q≠w2.heap.size) _ hgs.size (fun q hq hlt=>hgs.block q hlt (fun e=>hq (Option.some.inj e))) (KN.mono (fun q hq=>by have:=hq.2; omega) _) (hyl.step _ hb3)
  have uO:=hid KO
  have uD:Hid (Br.On (fun q=>w.heap.size+1≤q) (Br.mk ⟨yk,ym,yf,yt,ynp,ynn,ync,yns,ykp,ykn,ykc⟩ yks)):=hid (hyo.mono (fun q hq=>by simpa using hq) _)
  have HX:=hid hx3
  have HR3:=hid hr3
  have jJ:Hid ((w.alloc aK).grownBy (((((((w2.alloc (.cells #[.int .i64 0,.int .i64 0,.int .i64 0,.int .i64 0,.slice none 0 0,.slice none 0 0] 96)).setCell ⟨w2.heap.size,0,none⟩ (.int .i64 yk)).setCell ⟨w2.heap.size,1,none⟩ (.int .i64 ym)).setCell ⟨w2.heap.size,2,none⟩ (.int .i64 yf)).setCell ⟨w2.heap.size,3,none⟩ (.int .i64 yt)).setCell ⟨w2.heap.size,4,none⟩ (.slice ynp ynn ync)).setCell ⟨w2.heap.size,5,none⟩ (.slice ykp ykn ykc)) (some S.g)):=hid (dL (ae hg2 (grown_below hb3 _)) hgs (fun q hq=>by have:=Option.some.inj hq; simp; omega))
  have UL:=hid iL
  have Hf:=hid (aH S n2 d ⟨#[45,62]⟩ (((((((w2.alloc (.cells #[.int .i64 0,.int .i64 0,.int .i64 0,.int .i64 0,.slice none 0 0,.slice none 0 0] 96)).setCell ⟨w2.heap.size,0,none⟩ (.int .i64 yk)).setCell ⟨w2.heap.size,1,none⟩ (.int .i64 ym)).setCell ⟨w2.heap.size,2,none⟩ (.int .i64 yf)).setCell ⟨w2.heap.size,3,none⟩ (.int .i64 yt)).setCell ⟨w2.heap.size,4,none⟩ (.slice ynp ynn ync)).setCell ⟨w2.heap.size,5,none⟩ (.slice ykp ykn ykc)) hr3 (by simp))
  have jd:Hid (tot=bif S.is n2 [45,62] then (rec .ty d (n2+1)).bind fun c n3=>.ok (node 43 n n3 [] [Br.pb (Br.mk ⟨yk,ym,yf,yt,ynp,ynn,ync,yns,ykp,ykn,ykc⟩ yks),c]) n3 else .ok (Br.pb (Br.mk ⟨yk,ym,yf,yt,ynp,ynn,ync,yns,ykp,ykn,ykc⟩ yks)) n2):=hid (by rw [fJ.out,hpo,bind_ok,hyp])
  have KP:(((((((w2.alloc (.cells #[.int .i64 0,.int .i64 0,.int .i64 0,.int .i64 0,.slice none 0 0,.slice none 0 0] 96)).setCell ⟨w2.heap.size,0,none⟩ (.int .i64 yk)).setCell ⟨w2.heap.size,1,none⟩ (.int .i64 ym)).setCell ⟨w2.heap.size,2,none⟩ (.int .i64 yf)).setCell ⟨w2.heap.size,3,none⟩ (.int .i64 yt)).setCell ⟨w2.heap.size,4,none⟩ (.slice ynp ynn ync)).setCell ⟨w2.heap.size,5,none⟩ (.slice ykp ykn ykc)).heap.size=w2.heap.size+1:=by simp
  have Ez:=hid KP
  have qq:=cell_of_heap uN
  have r0:=qq 0
  have r1:=qq 1
  have r2:=qq 2
  have r3:=qq 3
  have r4:=qq 4
  have r5:=qq 5
  simp only [List.getElem?_toArray,List.getElem?_cons_zero,List.getElem?_cons_succ,aK] at r0 r1 r2 r3 r4 r5
  clear qq
  have fz:∀ i,(w2.alloc (.cells #[.int .i64 0,.int .i64 0,.int .i64 0,.int .i64 0,.slice none 0 0,.slice none 0 0] 96)).frozen? ⟨w2.heap.size,i,none⟩=false:=fun i=>aA uN i
  have f0:=fz 0
  have f1:=fz 1
  have f2:=fz 2
  have f3:=fz 3
  have f4:=fz 4
  have f5:=fz 5
  clear hpo hyl hyo hyp hr2 hg2 hb3 uN iL hgs hr3 hx2 hx3 KN KO fz fJ HP HR1 HB1 KP
  rename_i K1 hK1 K0 hK0
  show K0 _ _
  refine hK0 _ _ ?_
  refine wpList_step fun K2 hK2=>?_
  rw [if_pos (ag rfl)]
  unfold Oper.wp
  have hrun:∀ a:Act,(execOp a.eval ⟨some 4,.alloc 96,0,"terms.go:156",#[],none⟩).run prog w2=.ok (.value (.pointer (some ⟨w2.heap.size,0,none⟩))) (w2.alloc (.cells #[.int .i64 0,.int .i64 0,.int .i64 0,.int .i64 0,.slice none 0 0,.slice none 0 0] 96)):=fun a=>by
   generalize a.eval=ρ
   simp [go_sem]
   try rfl
  rw [hrun,Oper.upon_value]
  refine hK2 _ _ ?_
  clear hrun hK2 hK0
  simp only [Hd.val,Br.h,Act.put,List.setIfInBounds_toArray,List.set_cons_zero,List.set_cons_succ] at *
  generalize hb4:w2.heap.size=b4 at *
  generalize w2.alloc (.cells #[.int .i64 0,.int .i64 0,.int .i64 0,.int .i64 0,.slice none 0 0,.slice none 0 0] 96)=wA at *
  clear hb4
  go_wp2_with fail
  refine Hf.out.mono ?_
  rintro e w4 ⟨rfl,hr4,hg4⟩
  have HB4:=hid ((hg4.block b4 (by rw [Ez.out]; omega) (fun e=>hn2 (Option.some.inj e))).trans UL.out)
  have Xo:=hid ((hg4.block bx (by rw [Ez.out]; omega) (fun e=>hbg (Option.some.inj e))).trans HX.out)
  have Ht:Hid (Br.Lies w4 (Br.mk ⟨yk,ym,yf,yt,ynp,ynn,ync,yns,ykp,ykn,ykc⟩ yks)):=hid (Br.Lies.kept (P:=fun q=>w.heap.size+1≤q) _ hg4.size (fun q hq hlt=>hg4.block q hlt (fun e=>by have:=Option.some.inj e; omega)) uD.out uO.out)
  have tK:=hid (ae jJ.out hg4)
  have QG:b4 < w4.heap.size:=by have:=hg4.size; have h2:=Ez.out; omega
  have RG:w.heap.size < w4.heap.size:=by omega
  have Xp:bx < w4.heap.size:=by omega
  clear hg4 Hf HX HR3 jJ UL uO Ez r0 r1 r2 r3 r4 r5 f0 f1 f2 f3 f4 f5 qx3
  have hB4:=HB4.out
  have qq:=cell_of_heap hB4
  have q0:=qq 0
  have q1:=qq 1
  have q2:=qq 2
  have q3:=qq 3
  have q4:=qq 4
  have q5:=qq 5
  simp only [List.getElem?_toArray,List.getElem?_cons_zero,List.getElem?_cons_succ,aK] at q0 q1 q2 q3 q4 q5
  clear qq
  have qx4:=cell_of_heap Xo.out 0
  simp only [List.getElem?_toArray,List.getElem?_cons_zero] at qx4
  clear hB4
  generalize ((((((wA.setCell ⟨b4,0,none⟩ (.int .i64 yk)).setCell ⟨b4,1,none⟩ (.int .i64 ym)).setCell ⟨b4,2,none⟩ (.int .i64 yf)).setCell ⟨b4,3,none⟩ (.int .i64 yt)).setCell ⟨b4,4,none⟩ (.slice ynp ynn ync)).setCell ⟨b4,5,none⟩ (.slice ykp ykn ykc))=w3 at *
  cases his:S.is n2 [45,62]
  ·have ng:Hid (tot=.ok (Br.pb (Br.mk ⟨yk,ym,yf,yt,ynp,ynn,ync,yns,ykp,ykn,ykc⟩ yks)) n2):=hid (by rw [jd.out,his]; rfl)
   (try rw [his] at hr4)
   simp only [cond_false,cond_true] at hr4
   have FIN:=hid (bQ (o:=tot) _ yk ym yf yt ynp ynn ync yns ykp ykn ykc yks hr4 tK.out hgl bi ng.out Ht.out uD.out rfl)
   clear hr4 his
   have c0:=FIN.out.c0
   have c1:=FIN.out.c1
   have c2:=FIN.out.c2
   have c3:=FIN.out.c3
   have c4:=FIN.out.c4
   have c5:=FIN.out.c5
   have f0:=FIN.out.fz 0
   have f1:=FIN.out.fz 1
   have f2:=FIN.out.fz 2
   have f3:=FIN.out.fz 3
   have f4:=FIN.out.fz 4
   have f5:=FIN.out.fz 5
   go_wp2_with fail
   obtain ⟨_,_,_,_,_,_,_,d0,d1,d2,d3,d4,d5,hfin⟩:=FIN.out
   refine bodyPost_ret (by simp [results,results276,go_sem,d0,d1,d2,d3,d4,d5,Result.andThen]; try rfl) rfl ?_
   exact hfin
  ·have ng:Hid (tot=(rec .ty d (n2+1)).bind fun c n3=>.ok (node 43 n n3 [] [Br.pb (Br.mk ⟨yk,ym,yf,yt,ynp,ynn,ync,yns,ykp,ykn,ykc⟩ yks),c]) n3):=hid (by rw [jd.out,his]; rfl)
   (try rw [his] at hr4)
   simp only [cond_false,cond_true] at hr4
   have HR4:=hid hr4
   have Xq:=hr4.lt
   clear hr4 his
   go_wp2_with fail
   refine bn (fun W:World=>W.heap[b4]?=some (.cells #[.int .i64 yk,.int .i64 ym,.int .i64 yf,.int .i64 yt,.slice ynp ynn ync,.slice ykp ykn ykc] 96 (0,0))∧W.heap[bx]?=some (.cells #[.pointer (some ⟨S.g,0,none⟩)] 143 (0,0))) 7 (by kernel_rfl) ?_
   have hbd:=(Below.refl w4.heap.size w4).drew
   have hS:(fun W:World=>W.heap[b4]?=some (.cells #[.int .i64 yk,.int .i64 ym,.int .i64 yf,.int .i64 yt,.slice ynp ynn ync,.slice ykp ykn ykc] 96 (0,0))∧W.heap[bx]?=some (.cells #[.pointer (some ⟨S.g,0,none⟩)] 143 (0,0))) w4.drew:=⟨HB4.out,Xo.out⟩
   have HT:=hid (hs.ty (n2+1) w4.drew (HR4.out.step hbd) (aF (by rw [← ng.out]; exact fQ.out)))
   have KQ:=hid (Ht.out.step _ hbd)
   have UM:=hid (ae tK.out (grown_below hbd _))
   have WG:=hid hS
   have hzd:w4.drew.heap.size=w4.heap.size:=rfl
   rw [← hzd] at QG RG Xp Xq
   refine eu (N:=17) [(0,.int .i64 (n:Int)),(1,.pointer (some ⟨bx,0,none⟩)),(3,.pointer (some ⟨w.heap.size,0,none⟩)),(4,.pointer (some ⟨b4,0,none⟩))] (Fs.of rfl rfl (by simp [Act.eval])) ?_
   intro a0 ha0 hF
   clear hzd hbd HR4 tK Ht HB4 Xo
   generalize w4.drew=wd at *
   refine ay 0 [6,7] (oi:=⟨some 9,.load 143 (.tmp 1),143,"terms.go:158",#[],none⟩) (d:=9) (v:=.pointer (some ⟨S.g,0,none⟩)) hF hS rfl rfl (by decide) (by kernel_rfl) (by kernel_rfl) (by kernel_rfl) (by kernel_rfl) (fun _ _ _ h=>h) (fun a' hA=>ag rfl) (fun a' hA w' hw=>by have e1:=hA.get 1 rfl; have ec:∀ v,a'.eval (.const v)=v:=fun _=>rfl; have q0:=cell_of_heap hw.2 0; simp only [List.getElem?_toArray,List.getElem?_cons_zero] at q0; clear hA; generalize a'.eval=ρ at *; simp [go_sem,ec,e1,q0]; try rfl) ?_
   clear hF
   intro hF
   refine ay 1 [6,7] (oi:=⟨some 10,.move (.tmp 0),3,"terms.go:158",#[],none⟩) (d:=10) (v:=.int .i64 (n:Int)) hF hS rfl rfl (by decide) (by kernel_rfl) (by kernel_rfl) (by kernel_rfl) (by kernel_rfl) (fun _ _ _ h=>h) (fun a' hA=>ag rfl) (aI rfl rfl) ?_
   clear hF
   intro hF
   refine ay 2 [5,6,7] (oi:=⟨some 11,.load 96 (.tmp 4),96,"terms.go:158",#[],none⟩) (d:=11) (v:=.agg #[.int .i64 yk,.int .i64 ym,.int .i64 yf,.int .i64 yt,.slice ynp ynn ync,.slice ykp ykn ykc]) hF hS rfl rfl (by decide) (by kernel_rfl) (by kernel_rfl) (by kernel_rfl) (by kernel_rfl) (fun _ _ _ h=>h) (fun a' hA=>ag rfl) (fun a' hA w' hw=>by have e4:=hA.get 4 rfl; have ec:∀ v,a'.eval (.const v)=v:=fun _=>rfl; have qq:=cell_of_heap hw.1; have q0:=qq 0; have q1:=qq 1; have q2:=qq 2; have q3:=qq 3; have q4:=qq 4; have q5:=qq 5; simp only [List.getElem?_toArray,List.getElem?_cons_zero,List.getElem?_cons_succ] at q0 q1 q2 q3 q4 q5; clear qq; clear hA; generalize a'.eval=ρ at *; simp [go_sem,ec,e4,q0,q1,q2,q3,q4,q5]; try rfl) ?_
   clear hF
   intro hF
   refine ay 3 [4,5,6,7] (oi:=⟨some 12,.load 143 (.tmp 1),143,"terms.go:158",#[],none⟩) (d:=12) (v:=.pointer (some ⟨S.g,0,none⟩)) hF hS rfl rfl (by decide) (by kernel_rfl) (by kernel_rfl) (by kernel_rfl) (by kernel_rfl) (fun _ _ _ h=>h) (fun a' hA=>ag rfl) (fun a' hA w' hw=>by have e1:=hA.get 1 rfl; have ec:∀ v,a'.eval (.const v)=v:=fun _=>rfl; have q0:=cell_of_heap hw.2 0; simp only [List.getElem?_toArray,List.getElem?_cons_zero] at q0; clear hA; generalize a'.eval=ρ at *; simp [go_sem,ec,e1,q0]; try rfl) ?_
   clear hF
   intro hF
   refine ax 4 (by kernel_rfl) (cu 4 (oi:=⟨some 13,.call ⟨.value (.func 236),#[.tmp 12],#[143]⟩,96,"terms.go:158",#[⟨3,.data⟩],none⟩) (d:=13) (R:=fun e w'=>Ends S d wd (rec .ty d (n2+1)) (RB wd) e w') hF rfl rfl (by decide) (fun a' hA=>ag rfl) (fun a' hA=>by have e12:=hA.get 12 rfl; have ef:∀ f,a'.eval (.func f)=.func (.func f) #[] #[]:=fun _=>rfl; have ec:∀ v,a'.eval (.const v)=v:=fun _=>rfl; clear hA; generalize a'.eval=ρ at *; simp [go_sem,ef,ec,e12]) HT.out (fun w'=>Ends.noOut) ?_ ?_)
   ·rintro ch w' (⟨_,_,_,_,h2,_⟩ | ⟨ch',ho,h2,hg⟩)
    ·cases h2
    ·have h2:=Ending.panicked.inj h2
     subst h2
     have hq:bodyPost prog f276 (fun e w'=>Ends S d w tot (RB w) e w') (.panic ch) _ w':=⟨hF.2.1,Or.inr ⟨ch,by rw [ng.out]; exact aj ho,rfl,ae (grown_below ((Below.refl _ _).alloc (Nat.le_refl _) _) _) (ae UM.out hg)⟩⟩
     exact hq
   rintro v w5 (⟨c,n3,v',hco,h2,⟨z,hv,hzl,QM,hzp⟩,uC,hg5⟩ | ⟨_,_,h2,_⟩) hF2
   rotate_left
   ·cases h2
   have h2:=Ending.returned.inj h2
   subst h2
   obtain ⟨⟨zk,zm,zf,zt,znp,znn,znc,zns,zkp,zkn,zkc⟩,zks⟩:=z
   have hv2:v=.agg #[.int .i64 zk,.int .i64 zm,.int .i64 zf,.int .i64 zt,.slice znp znn znc,.slice zkp zkn zkc]:=hv
   subst hv2
   clear hv hF
   have hF:=hF2
   clear hF2
   have hb6:Below w5.heap.size w5 (w5.alloc (.cells #[.int .i64 yk,.int .i64 ym,.int .i64 yf,.int .i64 yt,.slice ynp ynn ync,.slice ykp ykn ykc,.int .i64 zk,.int .i64 zm,.int .i64 zf,.int .i64 zt,.slice znp znn znc,.slice zkp zkn zkc] 96)):=(Below.refl _ _).alloc (Nat.le_refl _) _
   have Hm:wd.heap.size≤w5.heap.size:=hg5.size
   have oK:(fun W:World=>W.heap[b4]?=some (.cells #[.int .i64 yk,.int .i64 ym,.int .i64 yf,.int .i64 yt,.slice ynp ynn ync,.slice ykp ykn ykc] 96 (0,0))∧W.heap[bx]?=some (.cells #[.pointer (some ⟨S.g,0,none⟩)] 143 (0,0))) w5:=⟨(hg5.block b4 (by omega) (fun e=>by have:=Option.some.inj e; omega)).trans WG.out.1,(hg5.block bx (by omega) (fun e=>hbg (Option.some.inj e))).trans WG.out.2⟩
   have tC:(fun W:World=>W.heap[b4]?=some (.cells #[.int .i64 yk,.int .i64 ym,.int .i64 yf,.int .i64 yt,.slice ynp ynn ync,.slice ykp ykn ykc] 96 (0,0))∧W.heap[bx]?=some (.cells #[.pointer (some ⟨S.g,0,none⟩)] 143 (0,0))) (w5.alloc (.cells #[.int .i64 yk,.int .i64 ym,.int .i64 yf,.int .i64 yt,.slice ynp ynn ync,.slice ykp ykn ykc,.int .i64 zk,.int .i64 zm,.int .i64 zf,.int .i64 zt,.slice znp znn znc,.slice zkp zkn zkc] 96)):=⟨(hb6.block b4 (by omega)).trans oK.1,(hb6.block bx (by omega)).trans oK.2⟩
   have RD:=hid (heap_alloc_new w5 (.cells #[.int .i64 yk,.int .i64 ym,.int .i64 yf,.int .i64 yt,.slice ynp ynn ync,.slice ykp ykn ykc,.int .i64 zk,.int .i64 zm,.int .i64 zf,.int .i64 zt,.slice znp znn znc,.slice zkp zkn zkc] 96))
   have tu:=hid (uC.step hb6)
   have RH:Hid (Br.Lies (w5.alloc (.cells #[.int .i64 yk,.int .i64 ym,.int .i64 yf,.int .i64 yt,.slice ynp ynn ync,.slice ykp ykn ykc,.int .i64 zk,.int .i64 zm,.int .i64 zf,.int .i64 zt,.slice znp znn znc,.slice zkp zkn zkc] 96)) (Br.mk ⟨yk,ym,yf,yt,ynp,ynn,ync,yns,ykp,ykn,ykc⟩ yks)):=hid ((Br.Lies.kept (P:=fun q=>w.heap.size+1≤q) _ hg5.size (fun q hq hlt=>hg5.block q hlt (fun e=>by have:=Option.some.inj e; omega)) uD.out KQ.out).step _ hb6)
   have RI:Hid (Br.Lies (w5.alloc (.cells #[.int .i64 yk,.int .i64 ym,.int .i64 yf,.int .i64 yt,.slice ynp ynn ync,.slice ykp ykn ykc,.int .i64 zk,.int .i64 zm,.int .i64 zf,.int .i64 zt,.slice znp znn znc,.slice zkp zkn zkc] 96)) (Br.mk ⟨zk,zm,zf,zt,znp,znn,znc,zns,zkp,zkn,zkc⟩ zks)):=hid (hzl.step _ hb6)
   have Xr:Hid (Br.On (fun q=>w.heap.size+1≤q∧some q≠some w5.heap.size) (Br.mk ⟨zk,zm,zf,zt,znp,znn,znc,zns,zkp,zkn,zkc⟩ zks)):=hid ((Br.On.low _ QM hzl).mono (fun q hq=>⟨by have:=hq.1; omega,fun e=>by have:=Option.some.inj e; have:=hq.2; omega⟩) _)
   have RJ:Hid (Br.On (fun q=>w.heap.size+1≤q∧some q≠some w5.heap.size) (Br.mk ⟨yk,ym,yf,yt,ynp,ynn,ync,yns,ykp,ykn,ykc⟩ yks)):=hid ((Br.On.low _ uD.out KQ.out).mono (fun q hq=>⟨hq.1,fun e=>by have:=Option.some.inj e; have:=hq.2; omega⟩) _)
   have AP:=hid (ae (ae UM.out hg5) (grown_below hb6 _))
   have EC:Hid (tot=.ok (node 43 n n3 [] [Br.pb (Br.mk ⟨yk,ym,yf,yt,ynp,ynn,ync,yns,ykp,ykn,ykc⟩ yks),Br.pb (Br.mk ⟨zk,zm,zf,zt,znp,znn,znc,zns,zkp,zkn,zkc⟩ zks)]) n3):=hid (by rw [ng.out,hco,bind_ok,hzp])
   have hk5:w.heap.size+1≤w5.heap.size:=by omega
   have Uf:=hid (aC S n3 d 43 n none 0 0 (some ⟨w5.heap.size,0,none⟩) 2 2 _ tu.out)
   refine ⟨fun _=>oK,?_⟩
   refine ax 5 (by kernel_rfl) (dM 5 (oi:=⟨some 14,.buildSlice 94 2 #[(0,.tmp 11),(1,.tmp 13)],94,"terms.go:158",#[⟨2,.data⟩,⟨4,.data⟩],none⟩) (d:=14) (v:=.slice (some ⟨w5.heap.size,0,none⟩) 2 2) (w':=w5.alloc (.cells #[.int .i64 yk,.int .i64 ym,.int .i64 yf,.int .i64 yt,.slice ynp ynn ync,.slice ykp ykn ykc,.int .i64 zk,.int .i64 zm,.int .i64 zf,.int .i64 zt,.slice znp znn znc,.slice zkp zkn zkc] 96)) hF rfl rfl (by decide) (fun a' hA=>ag rfl) (fun a' hA=>by have e11:=hA.get 11 rfl; have e13:=hA.get 13 rfl; have ec:∀ v,a'.eval (.const v)=v:=fun _=>rfl; clear hA; generalize a'.eval=ρ at *; simp [go_sem,ec,e11,e13]; try rfl) ?_)
   clear hF
   intro hF
   refine ⟨fun _=>tC,?_⟩
   refine ax 6 (by kernel_rfl) (cu 6 (oi:=⟨some 15,.call ⟨.value (.func 121),#[.tmp 9,.const (.int .i64 43),.tmp 10,.const (.slice none 0 0),.tmp 14],#[143,3,3,23,94]⟩,96,"terms.go:158",#[⟨0,.data⟩,⟨1,.data⟩,⟨5,.data⟩,⟨4,.chain⟩],none⟩) (d:=15) (R:=fun e w'=>e=.returned (.agg #[.int .i64 43,.int .i64 0,.int .i64 (n:Int),.int .i64 (n3:Int),.slice none 0 0,.slice (some ⟨w5.heap.size,0,none⟩) 2 2])∧Below (w5.alloc (.cells #[.int .i64 yk,.int .i64 ym,.int .i64 yf,.int .i64 yt,.slice ynp ynn ync,.slice ykp ykn ykc,.int .i64 zk,.int .i64 zm,.int .i64 zf,.int .i64 zt,.slice znp znn znc,.slice zkp zkn zkc] 96)).heap.size (w5.alloc (.cells #[.int .i64 yk,.int .i64 ym,.int .i64 yf,.int .i64 yt,.slice ynp ynn ync,.slice ykp ykn ykc,.int .i64 zk,.int .i64 zm,.int .i64 zf,.int .i64 zt,.slice znp znn znc,.slice zkp zkn zkc] 96)) w') hF rfl rfl (by decide) (fun a' hA=>ag rfl) (fun a' hA=>by have e9:=hA.get 9 rfl; have e10:=hA.get 10 rfl; have e14:=hA.get 14 rfl; have ef:∀ f,a'.eval (.func f)=.func (.func f) #[] #[]:=fun _=>rfl; have ec:∀ v,a'.eval (.const v)=v:=fun _=>rfl; clear hA; generalize a'.eval=ρ at *; simp [go_sem,ef,ec,e9,e10,e14]) Uf.out (by rintro w' ⟨h,_⟩; cases h) ?_ ?_)
   ·rintro ch w' ⟨h,_⟩
    cases h
   rintro v w7 ⟨h,hb7⟩
   have h:=Ending.returned.inj h
   subst h
   have hz6:(w5.alloc (.cells #[.int .i64 yk,.int .i64 ym,.int .i64 yf,.int .i64 yt,.slice ynp ynn ync,.slice ykp ykn ykc,.int .i64 zk,.int .i64 zm,.int .i64 zf,.int .i64 zt,.slice znp znn znc,.slice zkp zkn zkc] 96)).heap.size=w5.heap.size+1:=by simp
   refine fun hF2=>⟨fun _=>⟨(hb7.block b4 (by omega)).trans tC.1,(hb7.block bx (by omega)).trans tC.2⟩,?_⟩
   clear hF
   have hF:=hF2
   clear hF2
   have hown:=eF (n:=2) (size:=6) (w:=w7) (base:=w.heap.size+1) ((hb7.block _ (Array.getElem?_eq_some_iff.1 RD.out).1).trans RD.out) hk5 rfl (by unfold maxLen; omega)
   have hK:Kids (w.heap.size+1) (.slice (some ⟨w5.heap.size,0,none⟩) 2 2) w7 [(Br.mk ⟨yk,ym,yf,yt,ynp,ynn,ync,yns,ykp,ykn,ykc⟩ yks),(Br.mk ⟨zk,zm,zf,zt,znp,znn,znc,zns,zkp,zkn,zkc⟩ zks)]:=fun u hu=>by
    rcases List.mem_cons.1 hu with rfl | hu
    ·exact ⟨RH.out.step _ hb7,RJ.out.mono (fun q hq=>⟨hq.1,fun e=>hq.2 e⟩) _⟩
    ·obtain rfl:=List.mem_singleton.1 hu
     exact ⟨RI.out.step _ hb7,Xr.out.mono (fun q hq=>⟨hq.1,fun e=>hq.2 e⟩) _⟩
   have HL:=cZ (w0:=w) (w1:=w) (N:=w.heap.size+1) 43 0 n n3 (gX (w:=w7)) hown hK
   have FIN:=hid (bQ (o:=tot) (node 43 n n3 [] [Br.pb (Br.mk ⟨yk,ym,yf,yt,ynp,ynn,ync,yns,ykp,ykn,ykc⟩ yks),Br.pb (Br.mk ⟨zk,zm,zf,zt,znp,znn,znc,zns,zkp,zkn,zkc⟩ zks)]) 43 0 n n3 none 0 0 _ (some ⟨w5.heap.size,0,none⟩) 2 2 [(Br.mk ⟨yk,ym,yf,yt,ynp,ynn,ync,yns,ykp,ykn,ykc⟩ yks),(Br.mk ⟨zk,zm,zf,zt,znp,znn,znc,zns,zkp,zkn,zkc⟩ zks)] (tu.out.step hb7) (ae AP.out (grown_below hb7 _)) hgl bi EC.out HL.1 HL.2 (by simp [Br.pb,pbs,node]))
   refine ax 7 (by kernel_rfl) (dU 7 (oi:=⟨none,.store 96 (.tmp 3) (.tmp 15),0,"terms.go:158",#[⟨6,.data⟩,⟨6,.chain⟩,⟨0,.phase⟩,⟨1,.phase⟩,⟨2,.phase⟩,⟨3,.phase⟩,⟨4,.phase⟩,⟨5,.phase⟩,⟨6,.phase⟩],none⟩) (w':=((((((w7.setCell ⟨w.heap.size,0,none⟩ (.int .i64 43)).setCell ⟨w.heap.size,1,none⟩ (.int .i64 0)).setCell ⟨w.heap.size,2,none⟩ (.int .i64 (n:Int))).setCell ⟨w.heap.size,3,none⟩ (.int .i64 (n3:Int))).setCell ⟨w.heap.size,4,none⟩ (.slice none 0 0)).setCell ⟨w.heap.size,5,none⟩ (.slice (some ⟨w5.heap.size,0,none⟩) 2 2))) hF rfl rfl (fun a' hA=>ag rfl) (fun a' hA=>?_) ?_)
   ·have e3:=hA.get 3 rfl
    have e15:=hA.get 15 rfl
    have c0:=FIN.out.c0
    have c1:=FIN.out.c1
    have c2:=FIN.out.c2
    have c3:=FIN.out.c3
    have c4:=FIN.out.c4
    have c5:=FIN.out.c5
    have f0:=FIN.out.fz 0
    have f1:=FIN.out.fz 1
    have f2:=FIN.out.fz 2
    have f3:=FIN.out.fz 3
    have f4:=FIN.out.fz 4
    have f5:=FIN.out.fz 5
    clear hA hF
    generalize a'.eval=ρ at *
    simp [go_sem,e3,e15,c0,c1,c2,c3,c4,c5,f0,f1,f2,f3,f4,f5]
   refine ⟨fun h=>absurd h (by decide),?_⟩
   refine bG (by kernel_rfl) ?_ _
   subst ha0
   simp only [Act.put,List.setIfInBounds_toArray,List.set_cons_zero,List.set_cons_succ]
   clear HL hown hK hb7 tC oK hb6 uC hg5 hco hzl QM hzp hF hS
   go_wp2_with fail
   obtain ⟨_,_,_,_,_,_,_,d0,d1,d2,d3,d4,d5,hfin⟩:=FIN.out
   refine bodyPost_ret (by simp [results,results276,go_sem,d0,d1,d2,d3,d4,d5,Result.andThen]; try rfl) rfl ?_
   exact hfin
 ·exact ⟨rfl,Or.inr ⟨ch,by rw [fJ.out]; exact aj ho,rfl,ae (grown_below ((Below.refl _ _).alloc (Nat.le_refl _) _) _) hg2⟩⟩
end Go.Proofs.YtmpmfamiegpmgaaGreatDoor
