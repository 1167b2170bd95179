/-
  The reader's applied.; The reader's ty.
-/
import Derived.Test.YtmpmfamiegpmgaaGreatDoorFG
namespace Go.Proofs.YtmpmfamiegpmgaaGreatDoor
open Go.RowKit
set_option maxRecDepth 20000
set_option linter.unusedVariables false
set_option linter.unusedSimpArgs false

section
variable {P:Program} {ops:Array Oper} {Q:Exit→Act→World→Prop} {S:World→Prop} {st:Nat}
/-- Two numbers may come up. -/
theorem wpTill_two (i j:Nat) {fuel:Nat} {listed:Array Bool} {a:Act} {w:World} (hr:Region.ready .any ops listed=[i,j])
  (h1:Region.ready .any ops listed=[i,j]→wpOp P ops Q i (fun a' w'=>((listed.setIfInBounds i true).getD st true=false→S w')∧wpTill P ops Q S st fuel (listed.setIfInBounds i true) a' w') a w)
  (h2:Region.ready .any ops listed=[i,j]→wpOp P ops Q j (fun a' w'=>((listed.setIfInBounds j true).getD st true=false→S w')∧wpTill P ops Q S st fuel (listed.setIfInBounds j true) a' w') a w) :
  wpTill P ops Q S st (fuel+1) listed a w:=by
 refine ⟨fun h0=>(by rw [hr] at h0; cases h0),fun q hq=>?_⟩
 rw [hr] at hq
 rcases List.mem_cons.1 hq with rfl | hq
 ·exact h1 hr
 ·obtain rfl:=List.mem_singleton.1 hq
  exact h2 hr
/-- A call, whether or not others may come up. -/
theorem call_op (i:Nat) {oi:Oper} {d:Nat} {f:FuncId} {args:Array Value} {N:Nat} {L:List (Nat × Value)} {R:Ending→World→Prop} {K:Act→World→Prop} {a:Act} {w:World} (hF:Fs a N L) (hi:ops[i]?=some oi) (hd:oi.dst=some d) (hdN:d < N)
  (hw:∀ a',Fs a' N L→Region.wanted oi (yielded ops a'.tmps)=true)
  (hrun:∀ a',Fs a' N L→(execOp a'.eval oi).run P w=.ok (.enter f args) w)
  (hc:Calls P f args w R) (hout:∀ w',¬ R .outgrown w')
  (hpan:∀ ch w',R (.panicked ch) w'→Q (.panic ch) a w')
  (hret:∀ v w',R (.returned v) w'→(Fs (a.put (some d) v) N ((d,v) :: L)→K (a.put (some d) v) w')):wpOp P ops Q i K a w:=by
 refine wpOp_step hi (fun K' hK=>?_)
 rw [if_pos (hw a hF)]
 unfold Oper.wp
 rw [hrun a hF,Oper.upon_enter]
 refine hc.mono ?_
 intro e w' h
 cases e with
 | returned v =>
  refine hK _ _ ?_
  rw [hd]
  exact hret v w' h (hF.put hdN v)
 | panicked ch=>exact hpan ch w' h
 | outgrown=>exact absurd h (hout w')
/-- An operation that makes memory, whether or not others may come up. -/
theorem make_op (i:Nat) {oi:Oper} {d:Nat} {v:Value} {N:Nat} {L:List (Nat × Value)} {K:Act→World→Prop} {a:Act} {w w':World} (hF:Fs a N L) (hi:ops[i]?=some oi) (hd:oi.dst=some d) (hdN:d < N)
  (hw:∀ a',Fs a' N L→Region.wanted oi (yielded ops a'.tmps)=true)
  (hrun:∀ a',Fs a' N L→(execOp a'.eval oi).run P w=.ok (.value v) w')
  (h:Fs (a.put (some d) v) N ((d,v) :: L)→K (a.put (some d) v) w'):wpOp P ops Q i K a w:=by
 refine wpOp_step hi (fun K' hK=>?_)
 rw [if_pos (hw a hF)]
 unfold Oper.wp
 rw [hrun a hF,Oper.upon_value]
 refine hK _ _ ?_
 rw [hd]
 exact h (hF.put hdN v)
/-- A store. -/
theorem store_op (i:Nat) {oi:Oper} {N:Nat} {L:List (Nat × Value)} {K:Act→World→Prop} {a:Act} {w w':World} (hF:Fs a N L) (hi:ops[i]?=some oi) (hd:oi.dst=none)
  (hw:∀ a',Fs a' N L→Region.wanted oi (yielded ops a'.tmps)=true)
  (hrun:∀ a',Fs a' N L→(execOp a'.eval oi).run P w=.ok .skip w')
  (h:K a w'):wpOp P ops Q i K a w:=by
 refine wpOp_step hi (fun K' hK=>?_)
 rw [if_pos (hw a hF)]
 unfold Oper.wp
 rw [hrun a hF,Oper.upon_skip]
 refine hK _ _ ?_
 rw [hd]
 exact h
theorem wpTill_alone (i:Nat) {fuel:Nat} {listed:Array Bool} {a:Act} {w:World} (hr:Region.ready .any ops listed=[i])
  (h1:wpOp P ops Q i (fun a' w'=>((listed.setIfInBounds i true).getD st true=false→S w')∧wpTill P ops Q S st fuel (listed.setIfInBounds i true) a' w') a w):wpTill P ops Q S st (fuel+1) listed a w:=by
 refine ⟨fun h0=>(by rw [hr] at h0; cases h0),fun q hq=>?_⟩
 rw [hr] at hq
 obtain rfl:=List.mem_singleton.1 hq
 exact h1
end

set_option maxHeartbeats 8000000 in
theorem applied_any (S:Src) (F:Nat) (rec:Nt→Nat→Nat→Out Pb) (d:Nat) (hs:Said S rec d) (hF0:F≤1000000000) (n:Nat) (w:World) (h:Rd w S n d) (hdry:appliedO S F rec d n≠.dry) :
  Calls Tryz.prog 299 #[.pointer (some ⟨S.g,0,none⟩)] w fun e w'=>Ends S d w (appliedO S F rec d n) (RB w) e w':=by
 have hgl:=h.lt
 have hgwl:=h.row
 have hb1:Below w.heap.size w (w.alloc boxZ):=(Below.refl w.heap.size w).alloc (Nat.le_refl _) _
 have hr1:=h.step hb1
 have q2:=hr1.c2
 have hgz:w.heap.size≤(w.alloc boxZ).heap.size:=by simp
 unfold appliedO at hdry ⊢
 have HT:=Lib.hid (atomicTy_any S F rec d hs hF0 n _ hr1 (bind_dry hdry))
 have HDRY:=Lib.hid hdry
 obtain ⟨tot,htot⟩:∃ tot,tot=(atomicTyO S F rec d n).bind fun b n1=>appliedL S n F b n1:=⟨_,rfl⟩
 rw [← htot] at HDRY ⊢
 have HTOT:=Lib.hid htot
 clear hr1 hb1 h hs hdry htot
 go_enter Tryz.func299,Tryz.ntmps299
 go_wp2_with fail
 refine HT.out.mono ?_
 rintro e w2 (⟨b,i2,v,hpo,rfl,⟨y,rfl,hyl,hyo,hyp⟩,hr2,hg2⟩ | ⟨ch,ho,rfl,hg2⟩)
 ·obtain ⟨⟨yk,ym,yf,yt,ynp,ynn,ync,yns,ykp,ykn,ykc⟩,yks⟩:=y
  have hz2:w.heap.size+1≤w2.heap.size:=by have:=hg2.size; simpa using this
  have HL0:Hid (tot=appliedL S n F (Br.pb (.mk ⟨yk,ym,yf,yt,ynp,ynn,ync,yns,ykp,ykn,ykc⟩ yks)) i2):=Lib.hid (by rw [HTOT.out,hpo,bind_ok,hyp])
  have hB3:Below w2.heap.size w2 (w2.alloc (.cells #[.int .i64 yk,.int .i64 ym,.int .i64 yf,.int .i64 yt,.slice ynp ynn ync,.slice ykp ykn ykc] 96)):=(Below.refl _ _).alloc (Nat.le_refl _) _
  have HBX0:=Lib.hid (heap_alloc_new w2 (.cells #[.int .i64 yk,.int .i64 ym,.int .i64 yf,.int .i64 yt,.slice ynp ynn ync,.slice ykp ykn ykc] 96))
  have HYL0:=Lib.hid (hyl.step _ hB3)
  have HYO0:=Lib.hid ((Br.On.low _ hyo hyl).mono (Q:=fun q=>w.heap.size+1≤q∧q≠w2.heap.size) (fun q hq=>⟨by have:=hq.1; simpa using this,by have:=hq.2; omega⟩) _)
  have HR0:=Lib.hid (hr2.step hB3)
  have HG0:=Lib.hid (grown_trans hg2 (grown_below hB3 _))
  have HBS0:Hid (w2.heap.size < (w2.alloc (.cells #[.int .i64 yk,.int .i64 ym,.int .i64 yf,.int .i64 yt,.slice ynp ynn ync,.slice ykp ykn ykc] 96)).heap.size):=Lib.hid (by simp)
  clear hpo hyl hyo hyp hr2 hg2 hB3
  simp only [Hd.val,Br.h] at *
  go_wp2_with fail
  generalize hb4:w2.heap.size=b4 at *
  have HB4:=Lib.hid hb4
  clear hb4
  generalize w2.alloc (.cells #[.int .i64 yk,.int .i64 ym,.int .i64 yf,.int .i64 yt,.slice ynp ynn ync,.slice ykp ykn ykc] 96)=w3 at *
  go_loopg [] F (fun gk wr=>∃ (y:Br) (i:Nat),Hid (tot=appliedL S n gk y.pb i)∧Hid (wr.heap[b4]?=some (.cells #[.int .i64 y.h.k,.int .i64 y.h.m,.int .i64 y.h.f,.int .i64 y.h.t,.slice y.h.np y.h.nn y.h.nc,.slice y.h.kp y.h.kn y.h.kc] 96 (0,0)))∧Hid (y.Lies wr)∧Hid (y.On fun q=>w.heap.size+1≤q∧q≠b4)∧Hid (Rd wr S i d)∧Hid (b4 < wr.heap.size)∧(w.alloc boxZ).grownBy wr (some S.g))
  case atStart=>exact ⟨_,i2,HL0,HBX0,HYL0,HYO0,HR0,HBS0,HG0.out⟩
  case round =>
   obtain ⟨y,i,HL,HBX,HYL,HYO,HR,HBS,hgr⟩:=hrel
   obtain ⟨⟨yk,ym,yf,yt,ynp,ynn,ync,yns,ykp,ykn,ykc⟩,yks⟩:=y
   simp only [Br.h] at HBX
   have HGR:=Lib.hid hgr
   have hzr:w.heap.size+1≤wr.heap.size:=by have:=hgr.size; simpa using this
   have hb4g:S.g≠b4:=by have:=HB4.out; omega
   have hb4g:b4≠S.g:=fun e=>hb4g e.symm
   have hgg:S.g < w.heap.size:=hgl
   clear hgr
   cases gk with
   | zero=>exact absurd HL.out (by intro e; exact HDRY.out e)
   | succ gk =>
   have hLs:=HL.out
   simp only [appliedL] at hLs
   have HLS:=Lib.hid hLs
   clear hLs HL
   have HK:=Lib.hid (fun W (hW:Below wr.heap.size wr W)=>rkind_any S i d W (HR.out.step hW))
   cases h7:(S.kd i == 7)
   ·cases h6:(S.kd i == 6)
    ·have HEQ:Hid (tot=.ok (Br.pb (Br.mk ⟨yk,ym,yf,yt,ynp,ynn,ync,yns,ykp,ykn,ykc⟩ yks)) i):=Lib.hid (by rw [HLS.out,h7,h6]; rfl)
     clear HLS
     generalize S.kd i=kdi at *
     go_wp2_with fail
     refine (HK.out _ (Below.refl _ _)).mono ?_
     rintro e w4 ⟨rfl,hb4x⟩
     have HB4x:=Lib.hid hb4x
     clear hb4x
     go_wp2_with fail
     refine (HK.out _ HB4x.out).mono ?_
     rintro e w5 ⟨rfl,hb5x⟩
     have hb5:=HB4x.out.trans (hb5x.mono HB4x.out.size)
     have hB5:=(hb5.block b4 HBS.out).trans HBX.out
     have qq:=Lib.cell_of_heap hB5
     have q0:=qq 0
     have q1:=qq 1
     have q2:=qq 2
     have q3:=qq 3
     have q4:=qq 4
     have q5:=qq 5
     simp only [List.getElem?_toArray,List.getElem?_cons_zero,List.getElem?_cons_succ] at q0 q1 q2 q3 q4 q5
     have FIN:=Lib.hid (fin_box (o:=tot) _ yk ym yf yt ynp ynn ync yns ykp ykn ykc yks (HR.out.step hb5) (grown_trans HGR.out (grown_below hb5 _)) hgl hgwl HEQ.out (HYL.out.step _ hb5) (HYO.out.mono (fun q hq=>hq.1) _) rfl)
     clear hb5x hb5 hB5 qq
     have c0:=FIN.out.c0
     have c1:=FIN.out.c1
     have c2:=FIN.out.c2
     have c3:=FIN.out.c3
     have c4:=FIN.out.c4
     have c5:=FIN.out.c5
     have f0:=FIN.out.fz 0
     have f1:=FIN.out.fz 1
     have f2:=FIN.out.fz 2
     have f3:=FIN.out.fz 3
     have f4:=FIN.out.fz 4
     have f5:=FIN.out.fz 5
     go_wp2_with fail
     obtain ⟨_,_,_,_,_,_,_,d0,d1,d2,d3,d4,d5,hfin⟩:=FIN.out
     refine bodyPost_ret (by simp [results,Tryz.results299,go_sem,d0,d1,d2,d3,d4,d5,Result.andThen]; try rfl) rfl ?_
     exact hfin
    ·have HEQ:Hid (tot=(S.typePath i).bind fun p m1=>appliedL S n gk (node 42 n m1 p [Br.pb (Br.mk ⟨yk,ym,yf,yt,ynp,ynn,ync,yns,ykp,ykn,ykc⟩ yks)]) m1):=Lib.hid (by rw [HLS.out,h7,h6]; rfl)
     clear HLS
     have h7':=h7
     have h6':=h6
     generalize S.kd i=kdi at *
     go_wp2_with fail
     refine (HK.out _ (Below.refl _ _)).mono ?_
     rintro e w4 ⟨rfl,hb4x⟩
     have HB4x:=Lib.hid hb4x
     clear hb4x
     go_wp2_with fail
     refine (HK.out _ HB4x.out).mono ?_
     rintro e w5 ⟨rfl,hb5x⟩
     have hb5:=HB4x.out.trans (hb5x.mono HB4x.out.size)
     have HBX2:=Lib.hid ((hb5.block b4 HBS.out).trans HBX.out)
     have HYL2:=Lib.hid (HYL.out.step _ hb5)
     have HR2:=Lib.hid (HR.out.step hb5)
     have HBS2:Hid (b4 < w5.heap.size):=Lib.hid (Nat.lt_of_lt_of_le HBS.out hb5.size)
     have HGR2:=Lib.hid (grown_trans HGR.out (grown_below hb5 _))
     have hzr2:w.heap.size+1≤w5.heap.size:=Nat.le_trans hzr hb5.size
     clear hb5x hb5 HK HB4x HBX HYL HR HBS HGR hzr
     go_wp2_with fail
     obtain ⟨wr,hwr⟩:∃ wr,wr=w5:=⟨_,rfl⟩
     subst hwr
     have HBX:=HBX2
     have HYL:=HYL2
     have HR:=HR2
     have HBS:=HBS2
     have HGR:=HGR2
     have hzr:=hzr2
     clear HBX2 HYL2 HR2 HBS2 HGR2 hzr2 h7 h6 h7' h6'
     refine wp_region_till (fun W:World=>W.heap[b4]?=some (.cells #[.int .i64 yk,.int .i64 ym,.int .i64 yf,.int .i64 yt,.slice ynp ynn ync,.slice ykp ykn ykc] 96 (0,0))) 6 (by kernel_rfl) ?_
     have hS:(fun W:World=>W.heap[b4]?=some (.cells #[.int .i64 yk,.int .i64 ym,.int .i64 yf,.int .i64 yt,.slice ynp ynn ync,.slice ykp ykn ykc] 96 (0,0))) wr.drew:=HBX.out
     refine start_fp (N:=27) [(0,.pointer (some ⟨S.g,0,none⟩)),(3,.int .i64 (n:Int)),(4,.pointer (some ⟨b4,0,none⟩))] (Fs.of rfl rfl (by simp [Act.eval])) ?_
     intro a0 ha0 hF
     refine take_fp 0 [6,7] (oi:=⟨some 19,.move (.tmp 0),143,"terms.go:179",#[],none⟩) (d:=19) (v:=.pointer (some ⟨S.g,0,none⟩)) hF hS rfl rfl (by decide) (by kernel_rfl) (by kernel_rfl) (by kernel_rfl) (by kernel_rfl) (fun _ _ _ h=>h) (fun a' hA=>wanted_none rfl) (run_move_fs rfl rfl) ?_
     clear hF
     intro hF
     refine take_fp 1 [6,7] (oi:=⟨some 20,.move (.tmp 3),3,"terms.go:179",#[],none⟩) (d:=20) (v:=.int .i64 (n:Int)) hF hS rfl rfl (by decide) (by kernel_rfl) (by kernel_rfl) (by kernel_rfl) (by kernel_rfl) (fun _ _ _ h=>h) (fun a' hA=>wanted_none rfl) (run_move_fs rfl rfl) ?_
     clear hF
     intro hF
     refine take_fp 2 [3,6,7] (oi:=⟨some 21,.move (.tmp 0),143,"terms.go:179",#[],none⟩) (d:=21) (v:=.pointer (some ⟨S.g,0,none⟩)) hF hS rfl rfl (by decide) (by kernel_rfl) (by kernel_rfl) (by kernel_rfl) (by kernel_rfl) (fun _ _ _ h=>h) (fun a' hA=>wanted_none rfl) (run_move_fs rfl rfl) ?_
     clear hF
     intro hF
     refine take_fp 4 [5,6,7] (oi:=⟨some 23,.load 96 (.tmp 4),96,"terms.go:179",#[],none⟩) (d:=23) (v:=.agg #[.int .i64 yk,.int .i64 ym,.int .i64 yf,.int .i64 yt,.slice ynp ynn ync,.slice ykp ykn ykc]) hF hS rfl rfl (by decide) (by kernel_rfl) (by kernel_rfl) (by kernel_rfl) (by kernel_rfl) (fun _ _ _ h=>h) (fun a' hA=>wanted_none rfl) (fun a' hA w' hw=>by have e4:=hA.get 4 rfl; have ec:∀ v,a'.eval (.const v)=v:=fun _=>rfl; have qq:=Lib.cell_of_heap hw; have q0:=qq 0; have q1:=qq 1; have q2:=qq 2; have q3:=qq 3; have q4:=qq 4; have q5:=qq 5; simp only [List.getElem?_toArray,List.getElem?_cons_zero,List.getElem?_cons_succ] at q0 q1 q2 q3 q4 q5; clear qq; clear hA; generalize a'.eval=ρ at *; simp [go_sem,ec,e4,q0,q1,q2,q3,q4,q5]; try rfl) ?_
     clear hF
     intro hF
     refine wpTill_two 3 5 (by kernel_rfl) (fun _=>?_) (fun _=>?_)
     ·refine call_op 3 (oi:=⟨some 22,.call ⟨.value (.func 284),#[.tmp 21],#[143]⟩,23,"terms.go:179",#[⟨2,.data⟩],none⟩) (d:=22) (R:=fun e w'=>Ends S d wr.drew (S.typePath i) (RL wr.drew) e w') hF rfl rfl (by decide) (fun a' hA=>wanted_none rfl) (fun a' hA=>by have e21:=hA.get 21 rfl; have ef:∀ f,a'.eval (.func f)=.func (.func f) #[] #[]:=fun _=>rfl; have ec:∀ v,a'.eval (.const v)=v:=fun _=>rfl; clear hA; generalize a'.eval=ρ at *; simp [go_sem,ef,ec,e21]) (rtypePath_any S i d wr.drew (HR.out.step (Below.refl wr.heap.size wr).drew) (bind_dry (by rw [← HEQ.out]; exact HDRY.out))) (fun w'=>Ends.noOut) ?_ ?_
      ·rintro ch w' (⟨_,_,_,_,h2,_⟩ | ⟨ch',ho,h2,hg⟩)
       ·cases h2
       ·have h2:=Ending.panicked.inj h2
        subst h2
        have hq:bodyPost Tryz.prog Tryz.f299 (fun e w'=>Ends S d w tot (RB w) e w') (.panic ch) _ w':=⟨hF.2.1,Or.inr ⟨ch,by rw [HEQ.out]; exact pan_bind ho,rfl,grown_trans (grown_below ((Below.refl _ _).alloc (Nat.le_refl _) _) _) (grown_trans (grown_trans HGR.out (grown_below (Below.refl wr.heap.size wr).drew _)) hg)⟩⟩
        exact hq
      rintro v w5 (⟨p,n1,v',hpo,h2,hv,hr5,hg5⟩ | ⟨_,_,h2,_⟩) hF2
      rotate_left
      ·cases h2
      have h2:=Ending.returned.inj h2
      subst h2
      obtain ⟨np,nn,nc,rfl⟩:=hv.form
      have hF:=hF2
      clear hF2
      have hs5:wr.heap.size≤w5.heap.size:=hg5.size
      have hB5:w5.heap[b4]?=some (.cells #[.int .i64 yk,.int .i64 ym,.int .i64 yf,.int .i64 yt,.slice ynp ynn ync,.slice ykp ykn ykc] 96 (0,0)):=(hg5.block b4 HBS.out (fun e=>hb4g (Option.some.inj e))).trans HBX.out
      refine ⟨fun _=>hB5,?_⟩
      refine wpTill_alone 5 (by kernel_rfl) (make_op 5 (oi:=⟨some 24,.buildSlice 94 1 #[(0,.tmp 23)],94,"terms.go:179",#[⟨4,.data⟩],none⟩) (d:=24) (v:=.slice (some ⟨w5.heap.size,0,none⟩) 1 1) (w':=w5.alloc (.cells #[.int .i64 yk,.int .i64 ym,.int .i64 yf,.int .i64 yt,.slice ynp ynn ync,.slice ykp ykn ykc] 96)) hF rfl rfl (by decide) (fun a' hA=>wanted_none rfl) (fun a' hA=>by have e23:=hA.get 23 rfl; have ec:∀ v,a'.eval (.const v)=v:=fun _=>rfl; clear hA; generalize a'.eval=ρ at *; simp [go_sem,ec,e23]; try rfl) ?_)
      clear hF
      intro hF
      have hB56:Below w5.heap.size w5 (w5.alloc (.cells #[.int .i64 yk,.int .i64 ym,.int .i64 yf,.int .i64 yt,.slice ynp ynn ync,.slice ykp ykn ykc] 96)):=(Below.refl _ _).alloc (Nat.le_refl _) _
      have hB6:(w5.alloc (.cells #[.int .i64 yk,.int .i64 ym,.int .i64 yf,.int .i64 yt,.slice ynp ynn ync,.slice ykp ykn ykc] 96)).heap[b4]?=some (.cells #[.int .i64 yk,.int .i64 ym,.int .i64 yf,.int .i64 yt,.slice ynp ynn ync,.slice ykp ykn ykc] 96 (0,0)):=(hB56.block b4 (Array.getElem?_eq_some_iff.1 hB5).1).trans hB5
      refine ⟨fun _=>hB6,?_⟩
      have hgb:S.g < w.heap.size+1:=by omega
      have HKB:Hid ((w5.alloc (.cells #[.int .i64 yk,.int .i64 ym,.int .i64 yf,.int .i64 yt,.slice ynp ynn ync,.slice ykp ykn ykc] 96)).heap[w5.heap.size]?=some (.cells #[.int .i64 yk,.int .i64 ym,.int .i64 yf,.int .i64 yt,.slice ynp ynn ync,.slice ykp ykn ykc] 96 (0,0))∧w.heap.size+1≤w5.heap.size∧w5.heap.size≠b4):=Lib.hid ⟨heap_alloc_new w5 (.cells #[.int .i64 yk,.int .i64 ym,.int .i64 yf,.int .i64 yt,.slice ynp ynn ync,.slice ykp ykn ykc] 96),by omega,by have:=HBS.out; omega⟩
      have HV6:=Lib.hid (own_base (base':=w.heap.size+1) (ownsRow_below hv hB56) hzr)
      have HNB:Hid (∀ q,np=some q→q.block≠b4):=Lib.hid (fun q hq=>by subst hq; have h1:=(hv.lt _ rfl).1; have h3:=HBS.out; have h4:wr.heap.size≤q.block:=h1; omega)
      have HR6:=Lib.hid (hr5.step hB56)
      have HG6:=Lib.hid (grown_trans (grown_trans (grown_trans HGR.out (grown_below (Below.refl wr.heap.size wr).drew _)) hg5) (grown_below hB56 _))
      have hyl5:Br.Lies w5 (Br.mk ⟨yk,ym,yf,yt,ynp,ynn,ync,yns,ykp,ykn,ykc⟩ yks):=Br.Lies.kept (P:=fun q=>w.heap.size+1≤q∧q≠b4) _ hs5 (fun q hq hlt=>hg5.block q hlt (fun e=>by have:=Option.some.inj e; omega)) HYO.out HYL.out
      have HY6:Hid (Br.Lies (w5.alloc (.cells #[.int .i64 yk,.int .i64 ym,.int .i64 yf,.int .i64 yt,.slice ynp ynn ync,.slice ykp ykn ykc] 96)) (Br.mk ⟨yk,ym,yf,yt,ynp,ynn,ync,yns,ykp,ykn,ykc⟩ yks)∧Br.On (fun q=>w.heap.size+1≤q∧q≠b4∧q≠w5.heap.size) (Br.mk ⟨yk,ym,yf,yt,ynp,ynn,ync,yns,ykp,ykn,ykc⟩ yks)):=Lib.hid ⟨hyl5.step _ hB56,(Br.On.low _ HYO.out HYL.out).mono (fun q hq=>⟨hq.1.1,hq.1.2,by have:=hq.2; omega⟩) _⟩
      have HPO:=Lib.hid hpo
      generalize hkb:w5.heap.size=kb at *
      clear hkb hv hr5 hg5 hpo hyl5 hB5 hB56 hS
      have hS:True:=trivial
      generalize w5.alloc (.cells #[.int .i64 yk,.int .i64 ym,.int .i64 yf,.int .i64 yt,.slice ynp ynn ync,.slice ykp ykn ykc] 96)=w6 at *
      refine call_fp 6 (oi:=⟨some 25,.call ⟨.value (.func 121),#[.tmp 19,.const (.int .i64 42),.tmp 20,.tmp 22,.tmp 24],#[143,3,3,23,94]⟩,96,"terms.go:179",#[⟨0,.data⟩,⟨1,.data⟩,⟨3,.data⟩,⟨5,.data⟩,⟨3,.chain⟩],none⟩) (d:=25) (R:=fun e w'=>e=.returned (.agg #[.int .i64 42,.int .i64 0,.int .i64 (n:Int),.int .i64 (n1:Int),.slice np nn nc,.slice (some ⟨kb,0,none⟩) 1 1])∧Below w6.heap.size w6 w') hF rfl rfl (by decide) (by kernel_rfl) (fun a' hA=>wanted_none rfl) (fun a' hA=>by have e19:=hA.get 19 rfl; have e20:=hA.get 20 rfl; have e22:=hA.get 22 rfl; have e24:=hA.get 24 rfl; have ef:∀ f,a'.eval (.func f)=.func (.func f) #[] #[]:=fun _=>rfl; have ec:∀ v,a'.eval (.const v)=v:=fun _=>rfl; clear hA; generalize a'.eval=ρ at *; simp [go_sem,ef,ec,e19,e20,e22,e24]) (rbranch_any S n1 d 42 n np nn nc (some ⟨kb,0,none⟩) 1 1 w6 HR6.out) (by rintro w' ⟨h,_⟩; cases h) ?_ ?_
      ·rintro ch w' ⟨h,_⟩
       cases h
      rintro v w7 ⟨h,hb7⟩
      have h:=Ending.returned.inj h
      subst h
      refine ⟨fun h=>absurd h (by decide),?_⟩
      clear hF
      intro hF
      have hb4:=(hb7.block b4 (Array.getElem?_eq_some_iff.1 hB6).1).trans hB6
      obtain ⟨hsix,hgs⟩:=six_set hb4 (.int .i64 42) (.int .i64 0) (.int .i64 (n:Int)) (.int .i64 (n1:Int)) (.slice np nn nc) (.slice (some ⟨kb,0,none⟩) 1 1)
      refine wpTill_alone 7 (by kernel_rfl) (store_op 7 (oi:=⟨none,.store 96 (.tmp 4) (.tmp 25),0,"terms.go:179",#[⟨6,.data⟩,⟨6,.chain⟩,⟨0,.phase⟩,⟨1,.phase⟩,⟨2,.phase⟩,⟨3,.phase⟩,⟨4,.phase⟩,⟨5,.phase⟩,⟨6,.phase⟩],none⟩) (w':=((((((w7.setCell ⟨b4,0,none⟩ (.int .i64 42)).setCell ⟨b4,1,none⟩ (.int .i64 0)).setCell ⟨b4,2,none⟩ (.int .i64 (n:Int))).setCell ⟨b4,3,none⟩ (.int .i64 (n1:Int))).setCell ⟨b4,4,none⟩ (.slice np nn nc)).setCell ⟨b4,5,none⟩ (.slice (some ⟨kb,0,none⟩) 1 1))) hF rfl rfl (fun a' hA=>wanted_none rfl) (fun a' hA=>?_) ?_)
      ·have e4:=hA.get 4 rfl
       have e25:=hA.get 25 rfl
       have qq:=Lib.cell_of_heap hb4
       have q0:=qq 0
       have q1:=qq 1
       have q2:=qq 2
       have q3:=qq 3
       have q4:=qq 4
       have q5:=qq 5
       simp only [List.getElem?_toArray,List.getElem?_cons_zero,List.getElem?_cons_succ] at q0 q1 q2 q3 q4 q5
       have fz:∀ i,w7.frozen? ⟨b4,i,none⟩=false:=fun i=>by simp [World.frozen?,hb4]
       have f0:=fz 0
       have f1:=fz 1
       have f2:=fz 2
       have f3:=fz 3
       have f4:=fz 4
       have f5:=fz 5
       clear hA hF
       generalize a'.eval=ρ at *
       simp [go_sem,e4,e25,q0,q1,q2,q3,q4,q5,f0,f1,f2,f3,f4,f5]
      refine ⟨fun h=>absurd h (by decide),?_⟩
      refine wpTill_done (by kernel_rfl) ?_ _
      have hkb:=HKB.out
      have hown1:w7.ownsRow (w.heap.size+1) 96 6 (.slice (some ⟨kb,0,none⟩) 1 1) [Br.mk ⟨yk,ym,yf,yt,ynp,ynn,ync,yns,ykp,ykn,ykc⟩ yks].length (cellsK [Br.mk ⟨yk,ym,yf,yt,ynp,ynn,ync,yns,ykp,ykn,ykc⟩ yks]):=own_lit ((hb7.block _ (Array.getElem?_eq_some_iff.1 hkb.1).1).trans hkb.1) hkb.2.1 rfl (by unfold maxLen; omega)
      have hkids1:Kids (w.heap.size+1) (.slice (some ⟨kb,0,none⟩) 1 1) w7 [Br.mk ⟨yk,ym,yf,yt,ynp,ynn,ync,yns,ykp,ykn,ykc⟩ yks]:=fun z hz=>by
       obtain rfl:=List.mem_singleton.1 hz
       exact ⟨HY6.out.1.step _ hb7,HY6.out.2.mono (fun q hq=>⟨hq.1,fun e=>hq.2.2 (Option.some.inj (show some q=some (kb) from e))⟩) _⟩
      have HL:=node_lies (w0:=w) (w1:=w) 42 0 n n1 (ownsRow_below HV6.out hb7) hown1 hkids1
      have hon:Br.On (fun q=>w.heap.size+1≤q∧q≠b4) (.mk ⟨42,0,n,n1,np,nn,nc,p.map (fun x:Nat=>(x:Int)),some ⟨kb,0,none⟩,1,1⟩ [Br.mk ⟨yk,ym,yf,yt,ynp,ynn,ync,yns,ykp,ykn,ykc⟩ yks]):=by
       rw [on_iff]
       refine ⟨fun q _ hq=>⟨?_,HNB.out q (by simpa [Br.h] using hq)⟩,fun q _ hq=>?_,fun z hz=>?_⟩
       ·simp only [Br.h] at hq; subst hq; exact (HV6.out.lt _ rfl).1
       ·simp only [Br.h,Option.some.injEq] at hq; subst hq; exact ⟨hkb.2.1,hkb.2.2⟩
       ·simp only [Br.ks,List.mem_singleton] at hz; subst hz; exact HY6.out.2.mono (fun q hq=>⟨hq.1,hq.2.1⟩) _
      have hlies:Br.Lies ((((((w7.setCell ⟨b4,0,none⟩ (.int .i64 42)).setCell ⟨b4,1,none⟩ (.int .i64 0)).setCell ⟨b4,2,none⟩ (.int .i64 (n:Int))).setCell ⟨b4,3,none⟩ (.int .i64 (n1:Int))).setCell ⟨b4,4,none⟩ (.slice np nn nc)).setCell ⟨b4,5,none⟩ (.slice (some ⟨kb,0,none⟩) 1 1)) (.mk ⟨42,0,n,n1,np,nn,nc,p.map (fun x:Nat=>(x:Int)),some ⟨kb,0,none⟩,1,1⟩ [Br.mk ⟨yk,ym,yf,yt,ynp,ynn,ync,yns,ykp,ykn,ykc⟩ yks]) :=
       Br.Lies.kept (P:=fun q=>w.heap.size+1≤q∧q≠b4) _ hgs.size (fun q hq hlt=>hgs.block q hlt (fun e=>hq.2 (Option.some.inj e))) hon HL.1
      have HFR:=Lib.hid (And.intro hsix (And.intro hlies (And.intro hon (And.intro ((HR6.out.step hb7).grow hgs (fun e=>by have:=Option.some.inj e; omega) (fun e=>by have:=Option.some.inj e; omega)) (And.intro (Array.getElem?_eq_some_iff.1 hsix).1 (grown_own (grown_trans HG6.out (grown_below hb7 _)) hgs (fun q hq=>by have:=Option.some.inj hq; simp; omega)))))))
      subst ha0
      simp only [Act.put,List.setIfInBounds_toArray,List.set_cons_zero,List.set_cons_succ]
      clear hF hsix hgs hb4 hB6 hkb hown1 hkids1 HL hon hlies hb7 hS
      generalize ((((((w7.setCell ⟨b4,0,none⟩ (.int .i64 42)).setCell ⟨b4,1,none⟩ (.int .i64 0)).setCell ⟨b4,2,none⟩ (.int .i64 (n:Int))).setCell ⟨b4,3,none⟩ (.int .i64 (n1:Int))).setCell ⟨b4,4,none⟩ (.slice np nn nc)).setCell ⟨b4,5,none⟩ (.slice (some ⟨kb,0,none⟩) 1 1))=w8 at *
      go_wp2_with fail
      go_roundg gk
      case measure=>omega
      case rel=>exact ⟨.mk ⟨42,0,n,n1,np,nn,nc,p.map (fun x:Nat=>(x:Int)),some ⟨kb,0,none⟩,1,1⟩ [Br.mk ⟨yk,ym,yf,yt,ynp,ynn,ync,yns,ykp,ykn,ykc⟩ yks],n1,Lib.hid (by rw [HEQ.out,HPO.out]; simp [bind_ok,Br.pb,pbs,node]),Lib.hid HFR.out.1,Lib.hid HFR.out.2.1,Lib.hid HFR.out.2.2.1,Lib.hid HFR.out.2.2.2.1,Lib.hid HFR.out.2.2.2.2.1,HFR.out.2.2.2.2.2⟩
     ·refine make_op 5 (oi:=⟨some 24,.buildSlice 94 1 #[(0,.tmp 23)],94,"terms.go:179",#[⟨4,.data⟩],none⟩) (d:=24) (v:=.slice (some ⟨wr.heap.size,0,none⟩) 1 1) (w':=wr.drew.alloc (.cells #[.int .i64 yk,.int .i64 ym,.int .i64 yf,.int .i64 yt,.slice ynp ynn ync,.slice ykp ykn ykc] 96)) hF rfl rfl (by decide) (fun a' hA=>wanted_none rfl) (fun a' hA=>by have e23:=hA.get 23 rfl; have ec:∀ v,a'.eval (.const v)=v:=fun _=>rfl; clear hA; generalize a'.eval=ρ at *; simp [go_sem,ec,e23]; try rfl) ?_
      clear hF
      intro hF
      have hB5:Below wr.heap.size wr (wr.drew.alloc (.cells #[.int .i64 yk,.int .i64 ym,.int .i64 yf,.int .i64 yt,.slice ynp ynn ync,.slice ykp ykn ykc] 96)):=(Below.refl wr.heap.size wr).drew.alloc (Nat.le_refl _) _
      have hK5:(wr.drew.alloc (.cells #[.int .i64 yk,.int .i64 ym,.int .i64 yf,.int .i64 yt,.slice ynp ynn ync,.slice ykp ykn ykc] 96)).heap[wr.heap.size]?=some (.cells #[.int .i64 yk,.int .i64 ym,.int .i64 yf,.int .i64 yt,.slice ynp ynn ync,.slice ykp ykn ykc] 96 (0,0)):=heap_alloc_new wr.drew (.cells #[.int .i64 yk,.int .i64 ym,.int .i64 yf,.int .i64 yt,.slice ynp ynn ync,.slice ykp ykn ykc] 96)
      have hX5:(wr.drew.alloc (.cells #[.int .i64 yk,.int .i64 ym,.int .i64 yf,.int .i64 yt,.slice ynp ynn ync,.slice ykp ykn ykc] 96)).heap[b4]?=some (.cells #[.int .i64 yk,.int .i64 ym,.int .i64 yf,.int .i64 yt,.slice ynp ynn ync,.slice ykp ykn ykc] 96 (0,0)):=(hB5.block b4 HBS.out).trans HBX.out
      have hz5:(wr.drew.alloc (.cells #[.int .i64 yk,.int .i64 ym,.int .i64 yf,.int .i64 yt,.slice ynp ynn ync,.slice ykp ykn ykc] 96)).heap.size=wr.heap.size+1:=by simp
      refine ⟨fun _=>hX5,?_⟩
      have HR5:=Lib.hid (HR.out.step hB5)
      generalize wr.drew.alloc (.cells #[.int .i64 yk,.int .i64 ym,.int .i64 yf,.int .i64 yt,.slice ynp ynn ync,.slice ykp ykn ykc] 96)=w5 at *
      refine wpTill_alone 3 (by kernel_rfl) (call_op 3 (oi:=⟨some 22,.call ⟨.value (.func 284),#[.tmp 21],#[143]⟩,23,"terms.go:179",#[⟨2,.data⟩],none⟩) (d:=22) (R:=fun e w'=>Ends S d w5 (S.typePath i) (RL w5) e w') hF rfl rfl (by decide) (fun a' hA=>wanted_none rfl) (fun a' hA=>by have e21:=hA.get 21 rfl; have ef:∀ f,a'.eval (.func f)=.func (.func f) #[] #[]:=fun _=>rfl; have ec:∀ v,a'.eval (.const v)=v:=fun _=>rfl; clear hA; generalize a'.eval=ρ at *; simp [go_sem,ef,ec,e21]) (rtypePath_any S i d w5 HR5.out (bind_dry (by rw [← HEQ.out]; exact HDRY.out))) (fun w'=>Ends.noOut) ?_ ?_)
      ·rintro ch w' (⟨_,_,_,_,h2,_⟩ | ⟨ch',ho,h2,hg⟩)
       ·cases h2
       ·have h2:=Ending.panicked.inj h2
        subst h2
        have hq:bodyPost Tryz.prog Tryz.f299 (fun e w'=>Ends S d w tot (RB w) e w') (.panic ch) _ w':=⟨hF.2.1,Or.inr ⟨ch,by rw [HEQ.out]; exact pan_bind ho,rfl,grown_trans (grown_below ((Below.refl _ _).alloc (Nat.le_refl _) _) _) (grown_trans (grown_trans HGR.out (grown_below hB5 _)) hg)⟩⟩
        exact hq
      rintro v w6 (⟨p,n1,v',hpo,h2,hv,hr6,hg6⟩ | ⟨_,_,h2,_⟩) hF2
      rotate_left
      ·cases h2
      have h2:=Ending.returned.inj h2
      subst h2
      obtain ⟨np,nn,nc,rfl⟩:=hv.form
      have hF:=hF2
      clear hF2
      have hB6:w6.heap[b4]?=some (.cells #[.int .i64 yk,.int .i64 ym,.int .i64 yf,.int .i64 yt,.slice ynp ynn ync,.slice ykp ykn ykc] 96 (0,0)):=(hg6.block b4 (by have:=HBS.out; omega) (fun e=>hb4g (Option.some.inj e))).trans hX5
      refine ⟨fun _=>hB6,?_⟩
      have hs6:w5.heap.size≤w6.heap.size:=hg6.size
      have HKB:Hid (w6.heap[wr.heap.size]?=some (.cells #[.int .i64 yk,.int .i64 ym,.int .i64 yf,.int .i64 yt,.slice ynp ynn ync,.slice ykp ykn ykc] 96 (0,0))∧w.heap.size+1≤wr.heap.size∧wr.heap.size≠b4):=Lib.hid ⟨(hg6.block wr.heap.size (by omega) (fun e=>by have:=Option.some.inj e; omega)).trans hK5,by omega,by have:=HBS.out; omega⟩
      have HV6:=Lib.hid (own_base (base':=w.heap.size+1) hv (by omega))
      have HNB:Hid (∀ q,np=some q→q.block≠b4):=Lib.hid (fun q hq=>by subst hq; have h1:=(hv.lt _ rfl).1; have h3:=HBS.out; omega)
      have HR6:=Lib.hid hr6
      have HG6:=Lib.hid (grown_trans (grown_trans HGR.out (grown_below hB5 _)) hg6)
      have hyl5:Br.Lies w6 (Br.mk ⟨yk,ym,yf,yt,ynp,ynn,ync,yns,ykp,ykn,ykc⟩ yks):=Br.Lies.kept (P:=fun q=>w.heap.size+1≤q∧q≠b4) _ hs6 (fun q hq hlt=>hg6.block q hlt (fun e=>by have:=Option.some.inj e; omega)) HYO.out (HYL.out.step _ hB5)
      have HY6:Hid (Br.Lies w6 (Br.mk ⟨yk,ym,yf,yt,ynp,ynn,ync,yns,ykp,ykn,ykc⟩ yks)∧Br.On (fun q=>w.heap.size+1≤q∧q≠b4∧q≠wr.heap.size) (Br.mk ⟨yk,ym,yf,yt,ynp,ynn,ync,yns,ykp,ykn,ykc⟩ yks)):=Lib.hid ⟨hyl5,(Br.On.low _ HYO.out HYL.out).mono (fun q hq=>⟨hq.1.1,hq.1.2,by have:=hq.2; omega⟩) _⟩
      have HPO:=Lib.hid hpo
      generalize hkb:wr.heap.size=kb at *
      clear hkb hv hr6 hg6 hpo hyl5 hB5 hX5 hK5 hz5 hS
      have hS:True:=trivial
      refine call_fp 6 (oi:=⟨some 25,.call ⟨.value (.func 121),#[.tmp 19,.const (.int .i64 42),.tmp 20,.tmp 22,.tmp 24],#[143,3,3,23,94]⟩,96,"terms.go:179",#[⟨0,.data⟩,⟨1,.data⟩,⟨3,.data⟩,⟨5,.data⟩,⟨3,.chain⟩],none⟩) (d:=25) (R:=fun e w'=>e=.returned (.agg #[.int .i64 42,.int .i64 0,.int .i64 (n:Int),.int .i64 (n1:Int),.slice np nn nc,.slice (some ⟨kb,0,none⟩) 1 1])∧Below w6.heap.size w6 w') hF rfl rfl (by decide) (by kernel_rfl) (fun a' hA=>wanted_none rfl) (fun a' hA=>by have e19:=hA.get 19 rfl; have e20:=hA.get 20 rfl; have e22:=hA.get 22 rfl; have e24:=hA.get 24 rfl; have ef:∀ f,a'.eval (.func f)=.func (.func f) #[] #[]:=fun _=>rfl; have ec:∀ v,a'.eval (.const v)=v:=fun _=>rfl; clear hA; generalize a'.eval=ρ at *; simp [go_sem,ef,ec,e19,e20,e22,e24]) (rbranch_any S n1 d 42 n np nn nc (some ⟨kb,0,none⟩) 1 1 w6 HR6.out) (by rintro w' ⟨h,_⟩; cases h) ?_ ?_
      ·rintro ch w' ⟨h,_⟩
       cases h
      rintro v w7 ⟨h,hb7⟩
      have h:=Ending.returned.inj h
      subst h
      refine ⟨fun h=>absurd h (by decide),?_⟩
      clear hF
      intro hF
      have hb4:=(hb7.block b4 (Array.getElem?_eq_some_iff.1 hB6).1).trans hB6
      obtain ⟨hsix,hgs⟩:=six_set hb4 (.int .i64 42) (.int .i64 0) (.int .i64 (n:Int)) (.int .i64 (n1:Int)) (.slice np nn nc) (.slice (some ⟨kb,0,none⟩) 1 1)
      refine wpTill_alone 7 (by kernel_rfl) (store_op 7 (oi:=⟨none,.store 96 (.tmp 4) (.tmp 25),0,"terms.go:179",#[⟨6,.data⟩,⟨6,.chain⟩,⟨0,.phase⟩,⟨1,.phase⟩,⟨2,.phase⟩,⟨3,.phase⟩,⟨4,.phase⟩,⟨5,.phase⟩,⟨6,.phase⟩],none⟩) (w':=((((((w7.setCell ⟨b4,0,none⟩ (.int .i64 42)).setCell ⟨b4,1,none⟩ (.int .i64 0)).setCell ⟨b4,2,none⟩ (.int .i64 (n:Int))).setCell ⟨b4,3,none⟩ (.int .i64 (n1:Int))).setCell ⟨b4,4,none⟩ (.slice np nn nc)).setCell ⟨b4,5,none⟩ (.slice (some ⟨kb,0,none⟩) 1 1))) hF rfl rfl (fun a' hA=>wanted_none rfl) (fun a' hA=>?_) ?_)
      ·have e4:=hA.get 4 rfl
       have e25:=hA.get 25 rfl
       have qq:=Lib.cell_of_heap hb4
       have q0:=qq 0
       have q1:=qq 1
       have q2:=qq 2
       have q3:=qq 3
       have q4:=qq 4
       have q5:=qq 5
       simp only [List.getElem?_toArray,List.getElem?_cons_zero,List.getElem?_cons_succ] at q0 q1 q2 q3 q4 q5
       have fz:∀ i,w7.frozen? ⟨b4,i,none⟩=false:=fun i=>by simp [World.frozen?,hb4]
       have f0:=fz 0
       have f1:=fz 1
       have f2:=fz 2
       have f3:=fz 3
       have f4:=fz 4
       have f5:=fz 5
       clear hA hF
       generalize a'.eval=ρ at *
       simp [go_sem,e4,e25,q0,q1,q2,q3,q4,q5,f0,f1,f2,f3,f4,f5]
      refine ⟨fun h=>absurd h (by decide),?_⟩
      refine wpTill_done (by kernel_rfl) ?_ _
      have hkb:=HKB.out
      have hown1:w7.ownsRow (w.heap.size+1) 96 6 (.slice (some ⟨kb,0,none⟩) 1 1) [Br.mk ⟨yk,ym,yf,yt,ynp,ynn,ync,yns,ykp,ykn,ykc⟩ yks].length (cellsK [Br.mk ⟨yk,ym,yf,yt,ynp,ynn,ync,yns,ykp,ykn,ykc⟩ yks]):=own_lit ((hb7.block _ (Array.getElem?_eq_some_iff.1 hkb.1).1).trans hkb.1) hkb.2.1 rfl (by unfold maxLen; omega)
      have hkids1:Kids (w.heap.size+1) (.slice (some ⟨kb,0,none⟩) 1 1) w7 [Br.mk ⟨yk,ym,yf,yt,ynp,ynn,ync,yns,ykp,ykn,ykc⟩ yks]:=fun z hz=>by
       obtain rfl:=List.mem_singleton.1 hz
       exact ⟨HY6.out.1.step _ hb7,HY6.out.2.mono (fun q hq=>⟨hq.1,fun e=>hq.2.2 (Option.some.inj (show some q=some (kb) from e))⟩) _⟩
      have HL:=node_lies (w0:=w) (w1:=w) 42 0 n n1 (ownsRow_below HV6.out hb7) hown1 hkids1
      have hon:Br.On (fun q=>w.heap.size+1≤q∧q≠b4) (.mk ⟨42,0,n,n1,np,nn,nc,p.map (fun x:Nat=>(x:Int)),some ⟨kb,0,none⟩,1,1⟩ [Br.mk ⟨yk,ym,yf,yt,ynp,ynn,ync,yns,ykp,ykn,ykc⟩ yks]):=by
       rw [on_iff]
       refine ⟨fun q _ hq=>⟨?_,HNB.out q (by simpa [Br.h] using hq)⟩,fun q _ hq=>?_,fun z hz=>?_⟩
       ·simp only [Br.h] at hq; subst hq; exact (HV6.out.lt _ rfl).1
       ·simp only [Br.h,Option.some.injEq] at hq; subst hq; exact ⟨hkb.2.1,hkb.2.2⟩
       ·simp only [Br.ks,List.mem_singleton] at hz; subst hz; exact HY6.out.2.mono (fun q hq=>⟨hq.1,hq.2.1⟩) _
      have hlies:Br.Lies ((((((w7.setCell ⟨b4,0,none⟩ (.int .i64 42)).setCell ⟨b4,1,none⟩ (.int .i64 0)).setCell ⟨b4,2,none⟩ (.int .i64 (n:Int))).setCell ⟨b4,3,none⟩ (.int .i64 (n1:Int))).setCell ⟨b4,4,none⟩ (.slice np nn nc)).setCell ⟨b4,5,none⟩ (.slice (some ⟨kb,0,none⟩) 1 1)) (.mk ⟨42,0,n,n1,np,nn,nc,p.map (fun x:Nat=>(x:Int)),some ⟨kb,0,none⟩,1,1⟩ [Br.mk ⟨yk,ym,yf,yt,ynp,ynn,ync,yns,ykp,ykn,ykc⟩ yks]) :=
       Br.Lies.kept (P:=fun q=>w.heap.size+1≤q∧q≠b4) _ hgs.size (fun q hq hlt=>hgs.block q hlt (fun e=>hq.2 (Option.some.inj e))) hon HL.1
      have HFR:=Lib.hid (And.intro hsix (And.intro hlies (And.intro hon (And.intro ((HR6.out.step hb7).grow hgs (fun e=>by have:=Option.some.inj e; omega) (fun e=>by have:=Option.some.inj e; omega)) (And.intro (Array.getElem?_eq_some_iff.1 hsix).1 (grown_own (grown_trans HG6.out (grown_below hb7 _)) hgs (fun q hq=>by have:=Option.some.inj hq; simp; omega)))))))
      subst ha0
      simp only [Act.put,List.setIfInBounds_toArray,List.set_cons_zero,List.set_cons_succ]
      clear hF hsix hgs hb4 hB6 hkb hown1 hkids1 HL hon hlies hb7 hS
      generalize ((((((w7.setCell ⟨b4,0,none⟩ (.int .i64 42)).setCell ⟨b4,1,none⟩ (.int .i64 0)).setCell ⟨b4,2,none⟩ (.int .i64 (n:Int))).setCell ⟨b4,3,none⟩ (.int .i64 (n1:Int))).setCell ⟨b4,4,none⟩ (.slice np nn nc)).setCell ⟨b4,5,none⟩ (.slice (some ⟨kb,0,none⟩) 1 1))=w8 at *
      go_wp2_with fail
      go_roundg gk
      case measure=>omega
      case rel=>exact ⟨.mk ⟨42,0,n,n1,np,nn,nc,p.map (fun x:Nat=>(x:Int)),some ⟨kb,0,none⟩,1,1⟩ [Br.mk ⟨yk,ym,yf,yt,ynp,ynn,ync,yns,ykp,ykn,ykc⟩ yks],n1,Lib.hid (by rw [HEQ.out,HPO.out]; simp [bind_ok,Br.pb,pbs,node]),Lib.hid HFR.out.1,Lib.hid HFR.out.2.1,Lib.hid HFR.out.2.2.1,Lib.hid HFR.out.2.2.2.1,Lib.hid HFR.out.2.2.2.2.1,HFR.out.2.2.2.2.2⟩
   ·have HEQ:Hid (tot=(S.typePath i).bind fun p m1=>appliedL S n gk (node 42 n m1 p [Br.pb (Br.mk ⟨yk,ym,yf,yt,ynp,ynn,ync,yns,ykp,ykn,ykc⟩ yks)]) m1):=Lib.hid (by rw [HLS.out,h7]; rfl)
    clear HLS
    generalize S.kd i=kdi at *
    go_wp2_with fail
    refine (HK.out _ (Below.refl _ _)).mono ?_
    rintro e w5 ⟨rfl,hb5⟩
    have HBX2:=Lib.hid ((hb5.block b4 HBS.out).trans HBX.out)
    have HYL2:=Lib.hid (HYL.out.step _ hb5)
    have HR2:=Lib.hid (HR.out.step hb5)
    have HBS2:Hid (b4 < w5.heap.size):=Lib.hid (Nat.lt_of_lt_of_le HBS.out hb5.size)
    have HGR2:=Lib.hid (grown_trans HGR.out (grown_below hb5 _))
    have hzr2:w.heap.size+1≤w5.heap.size:=Nat.le_trans hzr hb5.size
    clear hb5 HK HBX HYL HR HBS HGR hzr
    go_wp2_with fail
    obtain ⟨wr,hwr⟩:∃ wr,wr=w5:=⟨_,rfl⟩
    subst hwr
    have HBX:=HBX2
    have HYL:=HYL2
    have HR:=HR2
    have HBS:=HBS2
    have HGR:=HGR2
    have hzr:=hzr2
    clear HBX2 HYL2 HR2 HBS2 HGR2 hzr2 h7
    refine wp_region_till (fun W:World=>W.heap[b4]?=some (.cells #[.int .i64 yk,.int .i64 ym,.int .i64 yf,.int .i64 yt,.slice ynp ynn ync,.slice ykp ykn ykc] 96 (0,0))) 6 (by kernel_rfl) ?_
    have hS:(fun W:World=>W.heap[b4]?=some (.cells #[.int .i64 yk,.int .i64 ym,.int .i64 yf,.int .i64 yt,.slice ynp ynn ync,.slice ykp ykn ykc] 96 (0,0))) wr.drew:=HBX.out
    refine start_fp (N:=27) [(0,.pointer (some ⟨S.g,0,none⟩)),(3,.int .i64 (n:Int)),(4,.pointer (some ⟨b4,0,none⟩))] (Fs.of rfl rfl (by simp [Act.eval])) ?_
    intro a0 ha0 hF
    refine take_fp 0 [6,7] (oi:=⟨some 19,.move (.tmp 0),143,"terms.go:179",#[],none⟩) (d:=19) (v:=.pointer (some ⟨S.g,0,none⟩)) hF hS rfl rfl (by decide) (by kernel_rfl) (by kernel_rfl) (by kernel_rfl) (by kernel_rfl) (fun _ _ _ h=>h) (fun a' hA=>wanted_none rfl) (run_move_fs rfl rfl) ?_
    clear hF
    intro hF
    refine take_fp 1 [6,7] (oi:=⟨some 20,.move (.tmp 3),3,"terms.go:179",#[],none⟩) (d:=20) (v:=.int .i64 (n:Int)) hF hS rfl rfl (by decide) (by kernel_rfl) (by kernel_rfl) (by kernel_rfl) (by kernel_rfl) (fun _ _ _ h=>h) (fun a' hA=>wanted_none rfl) (run_move_fs rfl rfl) ?_
    clear hF
    intro hF
    refine take_fp 2 [3,6,7] (oi:=⟨some 21,.move (.tmp 0),143,"terms.go:179",#[],none⟩) (d:=21) (v:=.pointer (some ⟨S.g,0,none⟩)) hF hS rfl rfl (by decide) (by kernel_rfl) (by kernel_rfl) (by kernel_rfl) (by kernel_rfl) (fun _ _ _ h=>h) (fun a' hA=>wanted_none rfl) (run_move_fs rfl rfl) ?_
    clear hF
    intro hF
    refine take_fp 4 [5,6,7] (oi:=⟨some 23,.load 96 (.tmp 4),96,"terms.go:179",#[],none⟩) (d:=23) (v:=.agg #[.int .i64 yk,.int .i64 ym,.int .i64 yf,.int .i64 yt,.slice ynp ynn ync,.slice ykp ykn ykc]) hF hS rfl rfl (by decide) (by kernel_rfl) (by kernel_rfl) (by kernel_rfl) (by kernel_rfl) (fun _ _ _ h=>h) (fun a' hA=>wanted_none rfl) (fun a' hA w' hw=>by have e4:=hA.get 4 rfl; have ec:∀ v,a'.eval (.const v)=v:=fun _=>rfl; have qq:=Lib.cell_of_heap hw; have q0:=qq 0; have q1:=qq 1; have q2:=qq 2; have q3:=qq 3; have q4:=qq 4; have q5:=qq 5; simp only [List.getElem?_toArray,List.getElem?_cons_zero,List.getElem?_cons_succ] at q0 q1 q2 q3 q4 q5; clear qq; clear hA; generalize a'.eval=ρ at *; simp [go_sem,ec,e4,q0,q1,q2,q3,q4,q5]; try rfl) ?_
    clear hF
    intro hF
    refine wpTill_two 3 5 (by kernel_rfl) (fun _=>?_) (fun _=>?_)
    ·refine call_op 3 (oi:=⟨some 22,.call ⟨.value (.func 284),#[.tmp 21],#[143]⟩,23,"terms.go:179",#[⟨2,.data⟩],none⟩) (d:=22) (R:=fun e w'=>Ends S d wr.drew (S.typePath i) (RL wr.drew) e w') hF rfl rfl (by decide) (fun a' hA=>wanted_none rfl) (fun a' hA=>by have e21:=hA.get 21 rfl; have ef:∀ f,a'.eval (.func f)=.func (.func f) #[] #[]:=fun _=>rfl; have ec:∀ v,a'.eval (.const v)=v:=fun _=>rfl; clear hA; generalize a'.eval=ρ at *; simp [go_sem,ef,ec,e21]) (rtypePath_any S i d wr.drew (HR.out.step (Below.refl wr.heap.size wr).drew) (bind_dry (by rw [← HEQ.out]; exact HDRY.out))) (fun w'=>Ends.noOut) ?_ ?_
     ·rintro ch w' (⟨_,_,_,_,h2,_⟩ | ⟨ch',ho,h2,hg⟩)
      ·cases h2
      ·have h2:=Ending.panicked.inj h2
       subst h2
       have hq:bodyPost Tryz.prog Tryz.f299 (fun e w'=>Ends S d w tot (RB w) e w') (.panic ch) _ w':=⟨hF.2.1,Or.inr ⟨ch,by rw [HEQ.out]; exact pan_bind ho,rfl,grown_trans (grown_below ((Below.refl _ _).alloc (Nat.le_refl _) _) _) (grown_trans (grown_trans HGR.out (grown_below (Below.refl wr.heap.size wr).drew _)) hg)⟩⟩
       exact hq
     rintro v w5 (⟨p,n1,v',hpo,h2,hv,hr5,hg5⟩ | ⟨_,_,h2,_⟩) hF2
     rotate_left
     ·cases h2
     have h2:=Ending.returned.inj h2
     subst h2
     obtain ⟨np,nn,nc,rfl⟩:=hv.form
     have hF:=hF2
     clear hF2
     have hs5:wr.heap.size≤w5.heap.size:=hg5.size
     have hB5:w5.heap[b4]?=some (.cells #[.int .i64 yk,.int .i64 ym,.int .i64 yf,.int .i64 yt,.slice ynp ynn ync,.slice ykp ykn ykc] 96 (0,0)):=(hg5.block b4 HBS.out (fun e=>hb4g (Option.some.inj e))).trans HBX.out
     refine ⟨fun _=>hB5,?_⟩
     refine wpTill_alone 5 (by kernel_rfl) (make_op 5 (oi:=⟨some 24,.buildSlice 94 1 #[(0,.tmp 23)],94,"terms.go:179",#[⟨4,.data⟩],none⟩) (d:=24) (v:=.slice (some ⟨w5.heap.size,0,none⟩) 1 1) (w':=w5.alloc (.cells #[.int .i64 yk,.int .i64 ym,.int .i64 yf,.int .i64 yt,.slice ynp ynn ync,.slice ykp ykn ykc] 96)) hF rfl rfl (by decide) (fun a' hA=>wanted_none rfl) (fun a' hA=>by have e23:=hA.get 23 rfl; have ec:∀ v,a'.eval (.const v)=v:=fun _=>rfl; clear hA; generalize a'.eval=ρ at *; simp [go_sem,ec,e23]; try rfl) ?_)
     clear hF
     intro hF
     have hB56:Below w5.heap.size w5 (w5.alloc (.cells #[.int .i64 yk,.int .i64 ym,.int .i64 yf,.int .i64 yt,.slice ynp ynn ync,.slice ykp ykn ykc] 96)):=(Below.refl _ _).alloc (Nat.le_refl _) _
     have hB6:(w5.alloc (.cells #[.int .i64 yk,.int .i64 ym,.int .i64 yf,.int .i64 yt,.slice ynp ynn ync,.slice ykp ykn ykc] 96)).heap[b4]?=some (.cells #[.int .i64 yk,.int .i64 ym,.int .i64 yf,.int .i64 yt,.slice ynp ynn ync,.slice ykp ykn ykc] 96 (0,0)):=(hB56.block b4 (Array.getElem?_eq_some_iff.1 hB5).1).trans hB5
     refine ⟨fun _=>hB6,?_⟩
     have hgb:S.g < w.heap.size+1:=by omega
     have HKB:Hid ((w5.alloc (.cells #[.int .i64 yk,.int .i64 ym,.int .i64 yf,.int .i64 yt,.slice ynp ynn ync,.slice ykp ykn ykc] 96)).heap[w5.heap.size]?=some (.cells #[.int .i64 yk,.int .i64 ym,.int .i64 yf,.int .i64 yt,.slice ynp ynn ync,.slice ykp ykn ykc] 96 (0,0))∧w.heap.size+1≤w5.heap.size∧w5.heap.size≠b4):=Lib.hid ⟨heap_alloc_new w5 (.cells #[.int .i64 yk,.int .i64 ym,.int .i64 yf,.int .i64 yt,.slice ynp ynn ync,.slice ykp ykn ykc] 96),by omega,by have:=HBS.out; omega⟩
     have HV6:=Lib.hid (own_base (base':=w.heap.size+1) (ownsRow_below hv hB56) hzr)
     have HNB:Hid (∀ q,np=some q→q.block≠b4):=Lib.hid (fun q hq=>by subst hq; have h1:=(hv.lt _ rfl).1; have h3:=HBS.out; have h4:wr.heap.size≤q.block:=h1; omega)
     have HR6:=Lib.hid (hr5.step hB56)
     have HG6:=Lib.hid (grown_trans (grown_trans (grown_trans HGR.out (grown_below (Below.refl wr.heap.size wr).drew _)) hg5) (grown_below hB56 _))
     have hyl5:Br.Lies w5 (Br.mk ⟨yk,ym,yf,yt,ynp,ynn,ync,yns,ykp,ykn,ykc⟩ yks):=Br.Lies.kept (P:=fun q=>w.heap.size+1≤q∧q≠b4) _ hs5 (fun q hq hlt=>hg5.block q hlt (fun e=>by have:=Option.some.inj e; omega)) HYO.out HYL.out
     have HY6:Hid (Br.Lies (w5.alloc (.cells #[.int .i64 yk,.int .i64 ym,.int .i64 yf,.int .i64 yt,.slice ynp ynn ync,.slice ykp ykn ykc] 96)) (Br.mk ⟨yk,ym,yf,yt,ynp,ynn,ync,yns,ykp,ykn,ykc⟩ yks)∧Br.On (fun q=>w.heap.size+1≤q∧q≠b4∧q≠w5.heap.size) (Br.mk ⟨yk,ym,yf,yt,ynp,ynn,ync,yns,ykp,ykn,ykc⟩ yks)):=Lib.hid ⟨hyl5.step _ hB56,(Br.On.low _ HYO.out HYL.out).mono (fun q hq=>⟨hq.1.1,hq.1.2,by have:=hq.2; omega⟩) _⟩
     have HPO:=Lib.hid hpo
     generalize hkb:w5.heap.size=kb at *
     clear hkb hv hr5 hg5 hpo hyl5 hB5 hB56 hS
     have hS:True:=trivial
     generalize w5.alloc (.cells #[.int .i64 yk,.int .i64 ym,.int .i64 yf,.int .i64 yt,.slice ynp ynn ync,.slice ykp ykn ykc] 96)=w6 at *
     refine call_fp 6 (oi:=⟨some 25,.call ⟨.value (.func 121),#[.tmp 19,.const (.int .i64 42),.tmp 20,.tmp 22,.tmp 24],#[143,3,3,23,94]⟩,96,"terms.go:179",#[⟨0,.data⟩,⟨1,.data⟩,⟨3,.data⟩,⟨5,.data⟩,⟨3,.chain⟩],none⟩) (d:=25) (R:=fun e w'=>e=.returned (.agg #[.int .i64 42,.int .i64 0,.int .i64 (n:Int),.int .i64 (n1:Int),.slice np nn nc,.slice (some ⟨kb,0,none⟩) 1 1])∧Below w6.heap.size w6 w') hF rfl rfl (by decide) (by kernel_rfl) (fun a' hA=>wanted_none rfl) (fun a' hA=>by have e19:=hA.get 19 rfl; have e20:=hA.get 20 rfl; have e22:=hA.get 22 rfl; have e24:=hA.get 24 rfl; have ef:∀ f,a'.eval (.func f)=.func (.func f) #[] #[]:=fun _=>rfl; have ec:∀ v,a'.eval (.const v)=v:=fun _=>rfl; clear hA; generalize a'.eval=ρ at *; simp [go_sem,ef,ec,e19,e20,e22,e24]) (rbranch_any S n1 d 42 n np nn nc (some ⟨kb,0,none⟩) 1 1 w6 HR6.out) (by rintro w' ⟨h,_⟩; cases h) ?_ ?_
     ·rintro ch w' ⟨h,_⟩
      cases h
     rintro v w7 ⟨h,hb7⟩
     have h:=Ending.returned.inj h
     subst h
     refine ⟨fun h=>absurd h (by decide),?_⟩
     clear hF
     intro hF
     have hb4:=(hb7.block b4 (Array.getElem?_eq_some_iff.1 hB6).1).trans hB6
     obtain ⟨hsix,hgs⟩:=six_set hb4 (.int .i64 42) (.int .i64 0) (.int .i64 (n:Int)) (.int .i64 (n1:Int)) (.slice np nn nc) (.slice (some ⟨kb,0,none⟩) 1 1)
     refine wpTill_alone 7 (by kernel_rfl) (store_op 7 (oi:=⟨none,.store 96 (.tmp 4) (.tmp 25),0,"terms.go:179",#[⟨6,.data⟩,⟨6,.chain⟩,⟨0,.phase⟩,⟨1,.phase⟩,⟨2,.phase⟩,⟨3,.phase⟩,⟨4,.phase⟩,⟨5,.phase⟩,⟨6,.phase⟩],none⟩) (w':=((((((w7.setCell ⟨b4,0,none⟩ (.int .i64 42)).setCell ⟨b4,1,none⟩ (.int .i64 0)).setCell ⟨b4,2,none⟩ (.int .i64 (n:Int))).setCell ⟨b4,3,none⟩ (.int .i64 (n1:Int))).setCell ⟨b4,4,none⟩ (.slice np nn nc)).setCell ⟨b4,5,none⟩ (.slice (some ⟨kb,0,none⟩) 1 1))) hF rfl rfl (fun a' hA=>wanted_none rfl) (fun a' hA=>?_) ?_)
     ·have e4:=hA.get 4 rfl
      have e25:=hA.get 25 rfl
      have qq:=Lib.cell_of_heap hb4
      have q0:=qq 0
      have q1:=qq 1
      have q2:=qq 2
      have q3:=qq 3
      have q4:=qq 4
      have q5:=qq 5
      simp only [List.getElem?_toArray,List.getElem?_cons_zero,List.getElem?_cons_succ] at q0 q1 q2 q3 q4 q5
      have fz:∀ i,w7.frozen? ⟨b4,i,none⟩=false:=fun i=>by simp [World.frozen?,hb4]
      have f0:=fz 0
      have f1:=fz 1
      have f2:=fz 2
      have f3:=fz 3
      have f4:=fz 4
      have f5:=fz 5
      clear hA hF
      generalize a'.eval=ρ at *
      simp [go_sem,e4,e25,q0,q1,q2,q3,q4,q5,f0,f1,f2,f3,f4,f5]
     refine ⟨fun h=>absurd h (by decide),?_⟩
     refine wpTill_done (by kernel_rfl) ?_ _
     have hkb:=HKB.out
     have hown1:w7.ownsRow (w.heap.size+1) 96 6 (.slice (some ⟨kb,0,none⟩) 1 1) [Br.mk ⟨yk,ym,yf,yt,ynp,ynn,ync,yns,ykp,ykn,ykc⟩ yks].length (cellsK [Br.mk ⟨yk,ym,yf,yt,ynp,ynn,ync,yns,ykp,ykn,ykc⟩ yks]):=own_lit ((hb7.block _ (Array.getElem?_eq_some_iff.1 hkb.1).1).trans hkb.1) hkb.2.1 rfl (by unfold maxLen; omega)
     have hkids1:Kids (w.heap.size+1) (.slice (some ⟨kb,0,none⟩) 1 1) w7 [Br.mk ⟨yk,ym,yf,yt,ynp,ynn,ync,yns,ykp,ykn,ykc⟩ yks]:=fun z hz=>by
      obtain rfl:=List.mem_singleton.1 hz
      exact ⟨HY6.out.1.step _ hb7,HY6.out.2.mono (fun q hq=>⟨hq.1,fun e=>hq.2.2 (Option.some.inj (show some q=some (kb) from e))⟩) _⟩
     have HL:=node_lies (w0:=w) (w1:=w) 42 0 n n1 (ownsRow_below HV6.out hb7) hown1 hkids1
     have hon:Br.On (fun q=>w.heap.size+1≤q∧q≠b4) (.mk ⟨42,0,n,n1,np,nn,nc,p.map (fun x:Nat=>(x:Int)),some ⟨kb,0,none⟩,1,1⟩ [Br.mk ⟨yk,ym,yf,yt,ynp,ynn,ync,yns,ykp,ykn,ykc⟩ yks]):=by
      rw [on_iff]
      refine ⟨fun q _ hq=>⟨?_,HNB.out q (by simpa [Br.h] using hq)⟩,fun q _ hq=>?_,fun z hz=>?_⟩
      ·simp only [Br.h] at hq; subst hq; exact (HV6.out.lt _ rfl).1
      ·simp only [Br.h,Option.some.injEq] at hq; subst hq; exact ⟨hkb.2.1,hkb.2.2⟩
      ·simp only [Br.ks,List.mem_singleton] at hz; subst hz; exact HY6.out.2.mono (fun q hq=>⟨hq.1,hq.2.1⟩) _
     have hlies:Br.Lies ((((((w7.setCell ⟨b4,0,none⟩ (.int .i64 42)).setCell ⟨b4,1,none⟩ (.int .i64 0)).setCell ⟨b4,2,none⟩ (.int .i64 (n:Int))).setCell ⟨b4,3,none⟩ (.int .i64 (n1:Int))).setCell ⟨b4,4,none⟩ (.slice np nn nc)).setCell ⟨b4,5,none⟩ (.slice (some ⟨kb,0,none⟩) 1 1)) (.mk ⟨42,0,n,n1,np,nn,nc,p.map (fun x:Nat=>(x:Int)),some ⟨kb,0,none⟩,1,1⟩ [Br.mk ⟨yk,ym,yf,yt,ynp,ynn,ync,yns,ykp,ykn,ykc⟩ yks]) :=
      Br.Lies.kept (P:=fun q=>w.heap.size+1≤q∧q≠b4) _ hgs.size (fun q hq hlt=>hgs.block q hlt (fun e=>hq.2 (Option.some.inj e))) hon HL.1
     have HFR:=Lib.hid (And.intro hsix (And.intro hlies (And.intro hon (And.intro ((HR6.out.step hb7).grow hgs (fun e=>by have:=Option.some.inj e; omega) (fun e=>by have:=Option.some.inj e; omega)) (And.intro (Array.getElem?_eq_some_iff.1 hsix).1 (grown_own (grown_trans HG6.out (grown_below hb7 _)) hgs (fun q hq=>by have:=Option.some.inj hq; simp; omega)))))))
     subst ha0
     simp only [Act.put,List.setIfInBounds_toArray,List.set_cons_zero,List.set_cons_succ]
     clear hF hsix hgs hb4 hB6 hkb hown1 hkids1 HL hon hlies hb7 hS
     generalize ((((((w7.setCell ⟨b4,0,none⟩ (.int .i64 42)).setCell ⟨b4,1,none⟩ (.int .i64 0)).setCell ⟨b4,2,none⟩ (.int .i64 (n:Int))).setCell ⟨b4,3,none⟩ (.int .i64 (n1:Int))).setCell ⟨b4,4,none⟩ (.slice np nn nc)).setCell ⟨b4,5,none⟩ (.slice (some ⟨kb,0,none⟩) 1 1))=w8 at *
     go_wp2_with fail
     go_roundg gk
     case measure=>omega
     case rel=>exact ⟨.mk ⟨42,0,n,n1,np,nn,nc,p.map (fun x:Nat=>(x:Int)),some ⟨kb,0,none⟩,1,1⟩ [Br.mk ⟨yk,ym,yf,yt,ynp,ynn,ync,yns,ykp,ykn,ykc⟩ yks],n1,Lib.hid (by rw [HEQ.out,HPO.out]; simp [bind_ok,Br.pb,pbs,node]),Lib.hid HFR.out.1,Lib.hid HFR.out.2.1,Lib.hid HFR.out.2.2.1,Lib.hid HFR.out.2.2.2.1,Lib.hid HFR.out.2.2.2.2.1,HFR.out.2.2.2.2.2⟩
    ·refine make_op 5 (oi:=⟨some 24,.buildSlice 94 1 #[(0,.tmp 23)],94,"terms.go:179",#[⟨4,.data⟩],none⟩) (d:=24) (v:=.slice (some ⟨wr.heap.size,0,none⟩) 1 1) (w':=wr.drew.alloc (.cells #[.int .i64 yk,.int .i64 ym,.int .i64 yf,.int .i64 yt,.slice ynp ynn ync,.slice ykp ykn ykc] 96)) hF rfl rfl (by decide) (fun a' hA=>wanted_none rfl) (fun a' hA=>by have e23:=hA.get 23 rfl; have ec:∀ v,a'.eval (.const v)=v:=fun _=>rfl; clear hA; generalize a'.eval=ρ at *; simp [go_sem,ec,e23]; try rfl) ?_
     clear hF
     intro hF
     have hB5:Below wr.heap.size wr (wr.drew.alloc (.cells #[.int .i64 yk,.int .i64 ym,.int .i64 yf,.int .i64 yt,.slice ynp ynn ync,.slice ykp ykn ykc] 96)):=(Below.refl wr.heap.size wr).drew.alloc (Nat.le_refl _) _
     have hK5:(wr.drew.alloc (.cells #[.int .i64 yk,.int .i64 ym,.int .i64 yf,.int .i64 yt,.slice ynp ynn ync,.slice ykp ykn ykc] 96)).heap[wr.heap.size]?=some (.cells #[.int .i64 yk,.int .i64 ym,.int .i64 yf,.int .i64 yt,.slice ynp ynn ync,.slice ykp ykn ykc] 96 (0,0)):=heap_alloc_new wr.drew (.cells #[.int .i64 yk,.int .i64 ym,.int .i64 yf,.int .i64 yt,.slice ynp ynn ync,.slice ykp ykn ykc] 96)
     have hX5:(wr.drew.alloc (.cells #[.int .i64 yk,.int .i64 ym,.int .i64 yf,.int .i64 yt,.slice ynp ynn ync,.slice ykp ykn ykc] 96)).heap[b4]?=some (.cells #[.int .i64 yk,.int .i64 ym,.int .i64 yf,.int .i64 yt,.slice ynp ynn ync,.slice ykp ykn ykc] 96 (0,0)):=(hB5.block b4 HBS.out).trans HBX.out
     have hz5:(wr.drew.alloc (.cells #[.int .i64 yk,.int .i64 ym,.int .i64 yf,.int .i64 yt,.slice ynp ynn ync,.slice ykp ykn ykc] 96)).heap.size=wr.heap.size+1:=by simp
     refine ⟨fun _=>hX5,?_⟩
     have HR5:=Lib.hid (HR.out.step hB5)
     generalize wr.drew.alloc (.cells #[.int .i64 yk,.int .i64 ym,.int .i64 yf,.int .i64 yt,.slice ynp ynn ync,.slice ykp ykn ykc] 96)=w5 at *
     refine wpTill_alone 3 (by kernel_rfl) (call_op 3 (oi:=⟨some 22,.call ⟨.value (.func 284),#[.tmp 21],#[143]⟩,23,"terms.go:179",#[⟨2,.data⟩],none⟩) (d:=22) (R:=fun e w'=>Ends S d w5 (S.typePath i) (RL w5) e w') hF rfl rfl (by decide) (fun a' hA=>wanted_none rfl) (fun a' hA=>by have e21:=hA.get 21 rfl; have ef:∀ f,a'.eval (.func f)=.func (.func f) #[] #[]:=fun _=>rfl; have ec:∀ v,a'.eval (.const v)=v:=fun _=>rfl; clear hA; generalize a'.eval=ρ at *; simp [go_sem,ef,ec,e21]) (rtypePath_any S i d w5 HR5.out (bind_dry (by rw [← HEQ.out]; exact HDRY.out))) (fun w'=>Ends.noOut) ?_ ?_)
     ·rintro ch w' (⟨_,_,_,_,h2,_⟩ | ⟨ch',ho,h2,hg⟩)
      ·cases h2
      ·have h2:=Ending.panicked.inj h2
       subst h2
       have hq:bodyPost Tryz.prog Tryz.f299 (fun e w'=>Ends S d w tot (RB w) e w') (.panic ch) _ w':=⟨hF.2.1,Or.inr ⟨ch,by rw [HEQ.out]; exact pan_bind ho,rfl,grown_trans (grown_below ((Below.refl _ _).alloc (Nat.le_refl _) _) _) (grown_trans (grown_trans HGR.out (grown_below hB5 _)) hg)⟩⟩
       exact hq
     rintro v w6 (⟨p,n1,v',hpo,h2,hv,hr6,hg6⟩ | ⟨_,_,h2,_⟩) hF2
     rotate_left
     ·cases h2
     have h2:=Ending.returned.inj h2
     subst h2
     obtain ⟨np,nn,nc,rfl⟩:=hv.form
     have hF:=hF2
     clear hF2
     have hB6:w6.heap[b4]?=some (.cells #[.int .i64 yk,.int .i64 ym,.int .i64 yf,.int .i64 yt,.slice ynp ynn ync,.slice ykp ykn ykc] 96 (0,0)):=(hg6.block b4 (by have:=HBS.out; omega) (fun e=>hb4g (Option.some.inj e))).trans hX5
     refine ⟨fun _=>hB6,?_⟩
     have hs6:w5.heap.size≤w6.heap.size:=hg6.size
     have HKB:Hid (w6.heap[wr.heap.size]?=some (.cells #[.int .i64 yk,.int .i64 ym,.int .i64 yf,.int .i64 yt,.slice ynp ynn ync,.slice ykp ykn ykc] 96 (0,0))∧w.heap.size+1≤wr.heap.size∧wr.heap.size≠b4):=Lib.hid ⟨(hg6.block wr.heap.size (by omega) (fun e=>by have:=Option.some.inj e; omega)).trans hK5,by omega,by have:=HBS.out; omega⟩
     have HV6:=Lib.hid (own_base (base':=w.heap.size+1) hv (by omega))
     have HNB:Hid (∀ q,np=some q→q.block≠b4):=Lib.hid (fun q hq=>by subst hq; have h1:=(hv.lt _ rfl).1; have h3:=HBS.out; omega)
     have HR6:=Lib.hid hr6
     have HG6:=Lib.hid (grown_trans (grown_trans HGR.out (grown_below hB5 _)) hg6)
     have hyl5:Br.Lies w6 (Br.mk ⟨yk,ym,yf,yt,ynp,ynn,ync,yns,ykp,ykn,ykc⟩ yks):=Br.Lies.kept (P:=fun q=>w.heap.size+1≤q∧q≠b4) _ hs6 (fun q hq hlt=>hg6.block q hlt (fun e=>by have:=Option.some.inj e; omega)) HYO.out (HYL.out.step _ hB5)
     have HY6:Hid (Br.Lies w6 (Br.mk ⟨yk,ym,yf,yt,ynp,ynn,ync,yns,ykp,ykn,ykc⟩ yks)∧Br.On (fun q=>w.heap.size+1≤q∧q≠b4∧q≠wr.heap.size) (Br.mk ⟨yk,ym,yf,yt,ynp,ynn,ync,yns,ykp,ykn,ykc⟩ yks)):=Lib.hid ⟨hyl5,(Br.On.low _ HYO.out HYL.out).mono (fun q hq=>⟨hq.1.1,hq.1.2,by have:=hq.2; omega⟩) _⟩
     have HPO:=Lib.hid hpo
     generalize hkb:wr.heap.size=kb at *
     clear hkb hv hr6 hg6 hpo hyl5 hB5 hX5 hK5 hz5 hS
     have hS:True:=trivial
     refine call_fp 6 (oi:=⟨some 25,.call ⟨.value (.func 121),#[.tmp 19,.const (.int .i64 42),.tmp 20,.tmp 22,.tmp 24],#[143,3,3,23,94]⟩,96,"terms.go:179",#[⟨0,.data⟩,⟨1,.data⟩,⟨3,.data⟩,⟨5,.data⟩,⟨3,.chain⟩],none⟩) (d:=25) (R:=fun e w'=>e=.returned (.agg #[.int .i64 42,.int .i64 0,.int .i64 (n:Int),.int .i64 (n1:Int),.slice np nn nc,.slice (some ⟨kb,0,none⟩) 1 1])∧Below w6.heap.size w6 w') hF rfl rfl (by decide) (by kernel_rfl) (fun a' hA=>wanted_none rfl) (fun a' hA=>by have e19:=hA.get 19 rfl; have e20:=hA.get 20 rfl; have e22:=hA.get 22 rfl; have e24:=hA.get 24 rfl; have ef:∀ f,a'.eval (.func f)=.func (.func f) #[] #[]:=fun _=>rfl; have ec:∀ v,a'.eval (.const v)=v:=fun _=>rfl; clear hA; generalize a'.eval=ρ at *; simp [go_sem,ef,ec,e19,e20,e22,e24]) (rbranch_any S n1 d 42 n np nn nc (some ⟨kb,0,none⟩) 1 1 w6 HR6.out) (by rintro w' ⟨h,_⟩; cases h) ?_ ?_
     ·rintro ch w' ⟨h,_⟩
      cases h
     rintro v w7 ⟨h,hb7⟩
     have h:=Ending.returned.inj h
     subst h
     refine ⟨fun h=>absurd h (by decide),?_⟩
     clear hF
     intro hF
     have hb4:=(hb7.block b4 (Array.getElem?_eq_some_iff.1 hB6).1).trans hB6
     obtain ⟨hsix,hgs⟩:=six_set hb4 (.int .i64 42) (.int .i64 0) (.int .i64 (n:Int)) (.int .i64 (n1:Int)) (.slice np nn nc) (.slice (some ⟨kb,0,none⟩) 1 1)
     refine wpTill_alone 7 (by kernel_rfl) (store_op 7 (oi:=⟨none,.store 96 (.tmp 4) (.tmp 25),0,"terms.go:179",#[⟨6,.data⟩,⟨6,.chain⟩,⟨0,.phase⟩,⟨1,.phase⟩,⟨2,.phase⟩,⟨3,.phase⟩,⟨4,.phase⟩,⟨5,.phase⟩,⟨6,.phase⟩],none⟩) (w':=((((((w7.setCell ⟨b4,0,none⟩ (.int .i64 42)).setCell ⟨b4,1,none⟩ (.int .i64 0)).setCell ⟨b4,2,none⟩ (.int .i64 (n:Int))).setCell ⟨b4,3,none⟩ (.int .i64 (n1:Int))).setCell ⟨b4,4,none⟩ (.slice np nn nc)).setCell ⟨b4,5,none⟩ (.slice (some ⟨kb,0,none⟩) 1 1))) hF rfl rfl (fun a' hA=>wanted_none rfl) (fun a' hA=>?_) ?_)
     ·have e4:=hA.get 4 rfl
      have e25:=hA.get 25 rfl
      have qq:=Lib.cell_of_heap hb4
      have q0:=qq 0
      have q1:=qq 1
      have q2:=qq 2
      have q3:=qq 3
      have q4:=qq 4
      have q5:=qq 5
      simp only [List.getElem?_toArray,List.getElem?_cons_zero,List.getElem?_cons_succ] at q0 q1 q2 q3 q4 q5
      have fz:∀ i,w7.frozen? ⟨b4,i,none⟩=false:=fun i=>by simp [World.frozen?,hb4]
      have f0:=fz 0
      have f1:=fz 1
      have f2:=fz 2
      have f3:=fz 3
      have f4:=fz 4
      have f5:=fz 5
      clear hA hF
      generalize a'.eval=ρ at *
      simp [go_sem,e4,e25,q0,q1,q2,q3,q4,q5,f0,f1,f2,f3,f4,f5]
     refine ⟨fun h=>absurd h (by decide),?_⟩
     refine wpTill_done (by kernel_rfl) ?_ _
     have hkb:=HKB.out
     have hown1:w7.ownsRow (w.heap.size+1) 96 6 (.slice (some ⟨kb,0,none⟩) 1 1) [Br.mk ⟨yk,ym,yf,yt,ynp,ynn,ync,yns,ykp,ykn,ykc⟩ yks].length (cellsK [Br.mk ⟨yk,ym,yf,yt,ynp,ynn,ync,yns,ykp,ykn,ykc⟩ yks]):=own_lit ((hb7.block _ (Array.getElem?_eq_some_iff.1 hkb.1).1).trans hkb.1) hkb.2.1 rfl (by unfold maxLen; omega)
     have hkids1:Kids (w.heap.size+1) (.slice (some ⟨kb,0,none⟩) 1 1) w7 [Br.mk ⟨yk,ym,yf,yt,ynp,ynn,ync,yns,ykp,ykn,ykc⟩ yks]:=fun z hz=>by
      obtain rfl:=List.mem_singleton.1 hz
      exact ⟨HY6.out.1.step _ hb7,HY6.out.2.mono (fun q hq=>⟨hq.1,fun e=>hq.2.2 (Option.some.inj (show some q=some (kb) from e))⟩) _⟩
     have HL:=node_lies (w0:=w) (w1:=w) 42 0 n n1 (ownsRow_below HV6.out hb7) hown1 hkids1
     have hon:Br.On (fun q=>w.heap.size+1≤q∧q≠b4) (.mk ⟨42,0,n,n1,np,nn,nc,p.map (fun x:Nat=>(x:Int)),some ⟨kb,0,none⟩,1,1⟩ [Br.mk ⟨yk,ym,yf,yt,ynp,ynn,ync,yns,ykp,ykn,ykc⟩ yks]):=by
      rw [on_iff]
      refine ⟨fun q _ hq=>⟨?_,HNB.out q (by simpa [Br.h] using hq)⟩,fun q _ hq=>?_,fun z hz=>?_⟩
      ·simp only [Br.h] at hq; subst hq; exact (HV6.out.lt _ rfl).1
      ·simp only [Br.h,Option.some.injEq] at hq; subst hq; exact ⟨hkb.2.1,hkb.2.2⟩
      ·simp only [Br.ks,List.mem_singleton] at hz; subst hz; exact HY6.out.2.mono (fun q hq=>⟨hq.1,hq.2.1⟩) _
     have hlies:Br.Lies ((((((w7.setCell ⟨b4,0,none⟩ (.int .i64 42)).setCell ⟨b4,1,none⟩ (.int .i64 0)).setCell ⟨b4,2,none⟩ (.int .i64 (n:Int))).setCell ⟨b4,3,none⟩ (.int .i64 (n1:Int))).setCell ⟨b4,4,none⟩ (.slice np nn nc)).setCell ⟨b4,5,none⟩ (.slice (some ⟨kb,0,none⟩) 1 1)) (.mk ⟨42,0,n,n1,np,nn,nc,p.map (fun x:Nat=>(x:Int)),some ⟨kb,0,none⟩,1,1⟩ [Br.mk ⟨yk,ym,yf,yt,ynp,ynn,ync,yns,ykp,ykn,ykc⟩ yks]) :=
      Br.Lies.kept (P:=fun q=>w.heap.size+1≤q∧q≠b4) _ hgs.size (fun q hq hlt=>hgs.block q hlt (fun e=>hq.2 (Option.some.inj e))) hon HL.1
     have HFR:=Lib.hid (And.intro hsix (And.intro hlies (And.intro hon (And.intro ((HR6.out.step hb7).grow hgs (fun e=>by have:=Option.some.inj e; omega) (fun e=>by have:=Option.some.inj e; omega)) (And.intro (Array.getElem?_eq_some_iff.1 hsix).1 (grown_own (grown_trans HG6.out (grown_below hb7 _)) hgs (fun q hq=>by have:=Option.some.inj hq; simp; omega)))))))
     subst ha0
     simp only [Act.put,List.setIfInBounds_toArray,List.set_cons_zero,List.set_cons_succ]
     clear hF hsix hgs hb4 hB6 hkb hown1 hkids1 HL hon hlies hb7 hS
     generalize ((((((w7.setCell ⟨b4,0,none⟩ (.int .i64 42)).setCell ⟨b4,1,none⟩ (.int .i64 0)).setCell ⟨b4,2,none⟩ (.int .i64 (n:Int))).setCell ⟨b4,3,none⟩ (.int .i64 (n1:Int))).setCell ⟨b4,4,none⟩ (.slice np nn nc)).setCell ⟨b4,5,none⟩ (.slice (some ⟨kb,0,none⟩) 1 1))=w8 at *
     go_wp2_with fail
     go_roundg gk
     case measure=>omega
     case rel=>exact ⟨.mk ⟨42,0,n,n1,np,nn,nc,p.map (fun x:Nat=>(x:Int)),some ⟨kb,0,none⟩,1,1⟩ [Br.mk ⟨yk,ym,yf,yt,ynp,ynn,ync,yns,ykp,ykn,ykc⟩ yks],n1,Lib.hid (by rw [HEQ.out,HPO.out]; simp [bind_ok,Br.pb,pbs,node]),Lib.hid HFR.out.1,Lib.hid HFR.out.2.1,Lib.hid HFR.out.2.2.1,Lib.hid HFR.out.2.2.2.1,Lib.hid HFR.out.2.2.2.2.1,HFR.out.2.2.2.2.2⟩
 ·exact ⟨rfl,Or.inr ⟨ch,by rw [HTOT.out]; exact pan_bind ho,rfl,grown_trans (grown_below ((Below.refl _ _).alloc (Nat.le_refl _) _) _) hg2⟩⟩
end Go.Proofs.YtmpmfamiegpmgaaGreatDoor

namespace Go.Proofs.YtmpmfamiegpmgaaGreatDoor
open Go.RowKit
set_option maxRecDepth 20000
set_option linter.unusedVariables false
set_option linter.unusedSimpArgs false

theorem cells_frozen {W:World} {g:Nat} {cs:Array Value} {E:Nat} (h:W.heap[g]?=some (.cells cs E (0,0))) (i:Nat):W.frozen? ⟨g,i,none⟩=false:=by simp [World.frozen?,h]
set_option maxHeartbeats 1000000 in
theorem tyC_any (S:Src) (F:Nat) (rec:Nt→Nat→Nat→Out Pb) (d:Nat) (hs:Said S rec d) (hF0:F≤1000000000) (bx n:Nat) (w:World) (h:Rd w S n d) (hbx:w.heap[bx]?=some (.cells #[.pointer (some ⟨S.g,0,none⟩)] 143 (0,0))) (hbg:bx≠S.g) (hdry:tyO S F rec d n≠.dry) :
  Calls Tryz.prog 276 #[.int .i64 (n:Int),.pointer (some ⟨bx,0,none⟩)] w fun e w'=>Ends S d w (tyO S F rec d n) (RB w) e w':=by
 have hgl:=h.lt
 have hgwl:=h.row
 have hb1:Below w.heap.size w (w.alloc boxZ):=(Below.refl w.heap.size w).alloc (Nat.le_refl _) _
 have hr1:=h.step hb1
 have hxl:bx < w.heap.size:=(Array.getElem?_eq_some_iff.1 hbx).1
 have hB1:=(hb1.block bx hxl).trans hbx
 have qb:(w.alloc boxZ).cell? ⟨bx,0,none⟩=some (.pointer (some ⟨S.g,0,none⟩)):=Lib.cell_of_heap hB1 0
 have hgz:w.heap.size+1≤(w.alloc boxZ).heap.size:=by simp
 unfold tyO at hdry ⊢
 have HP:=Lib.hid (fun w' (hr:Rd w' S n d)=>product_any S F rec d hF0 (fun k w hr hnd=>applied_any S F rec d hs hF0 k w hr hnd) n w' hr (bind_dry hdry))
 have HDRY:=Lib.hid hdry
 have HR1:=Lib.hid hr1
 have HB1:=Lib.hid hB1
 obtain ⟨tot,htot⟩:∃ tot,tot=(productO S F rec d n).bind fun b n1=>bif S.is n1 [45,62] then (rec .ty d (n1+1)).bind fun c n2=>.ok (node 43 n n2 [] [b,c]) n2 else .ok b n1:=⟨_,rfl⟩
 rw [← htot] at HDRY ⊢
 have HTOT:=Lib.hid htot
 clear hr1 hb1 h hdry htot hB1 hbx
 go_enter Tryz.func276,Tryz.ntmps276
 go_wp2_with fail
 refine (HP.out _ HR1.out).mono ?_
 rintro e w2 (⟨b,n2,v,hpo,rfl,⟨y,rfl,hyl,hyo,hyp⟩,hr2,hg2⟩ | ⟨ch,ho,rfl,hg2⟩)
 ·obtain ⟨⟨yk,ym,yf,yt,ynp,ynn,ync,yns,ykp,ykn,ykc⟩,yks⟩:=y
  have hz2:w.heap.size+1≤w2.heap.size:=by have:=hg2.size; simpa using this
  have hb3:Below w2.heap.size w2 (w2.alloc (.cells #[.int .i64 0,.int .i64 0,.int .i64 0,.int .i64 0,.slice none 0 0,.slice none 0 0] 96)):=(Below.refl _ _).alloc (Nat.le_refl _) _
  have hrb3:=heap_alloc_new w2 (.cells #[.int .i64 0,.int .i64 0,.int .i64 0,.int .i64 0,.slice none 0 0,.slice none 0 0] 96)
  obtain ⟨hsix,hgs⟩:=six_set hrb3 (.int .i64 yk) (.int .i64 ym) (.int .i64 yf) (.int .i64 yt) (.slice ynp ynn ync) (.slice ykp ykn ykc)
  have hn1:¬ S.g=w2.heap.size:=by omega
  have hn2:¬ w2.heap.size=S.g:=by omega
  have hn3:¬ bx=w2.heap.size:=by omega
  have hn4:¬ w2.heap.size=bx:=by omega
  have hr3:=(hr2.step hb3).grow hgs (fun e=>by have:=Option.some.inj e; omega) (fun e=>by have:=Option.some.inj e; omega)
  have hx2:=(hg2.block bx (by simp; omega) (fun e=>hbg (Option.some.inj e))).trans HB1.out
  have hx3:=(hgs.block bx (by simp; omega) (fun e=>hn3 (Option.some.inj e))).trans ((hb3.block bx (by omega)).trans hx2)
  have qx3:(((((((w2.alloc (.cells #[.int .i64 0,.int .i64 0,.int .i64 0,.int .i64 0,.slice none 0 0,.slice none 0 0] 96)).setCell ⟨w2.heap.size,0,none⟩ (.int .i64 yk)).setCell ⟨w2.heap.size,1,none⟩ (.int .i64 ym)).setCell ⟨w2.heap.size,2,none⟩ (.int .i64 yf)).setCell ⟨w2.heap.size,3,none⟩ (.int .i64 yt)).setCell ⟨w2.heap.size,4,none⟩ (.slice ynp ynn ync)).setCell ⟨w2.heap.size,5,none⟩ (.slice ykp ykn ykc)).cell? ⟨bx,0,none⟩=some (.pointer (some ⟨S.g,0,none⟩)):=Lib.cell_of_heap hx3 0
  have hyo2:=Br.On.low _ hyo hyl
  have hyl3:Br.Lies (((((((w2.alloc (.cells #[.int .i64 0,.int .i64 0,.int .i64 0,.int .i64 0,.slice none 0 0,.slice none 0 0] 96)).setCell ⟨w2.heap.size,0,none⟩ (.int .i64 yk)).setCell ⟨w2.heap.size,1,none⟩ (.int .i64 ym)).setCell ⟨w2.heap.size,2,none⟩ (.int .i64 yf)).setCell ⟨w2.heap.size,3,none⟩ (.int .i64 yt)).setCell ⟨w2.heap.size,4,none⟩ (.slice ynp ynn ync)).setCell ⟨w2.heap.size,5,none⟩ (.slice ykp ykn ykc)) (Br.mk ⟨yk,ym,yf,yt,ynp,ynn,ync,yns,ykp,ykn,ykc⟩ yks):=Br.Lies.kept (P:=fun q=>q≠w2.heap.size) _ hgs.size (fun q hq hlt=>hgs.block q hlt (fun e=>hq (Option.some.inj e))) (hyo2.mono (fun q hq=>by have:=hq.2; omega) _) (hyl.step _ hb3)
  have HYL:=Lib.hid hyl3
  have HYO:Hid (Br.On (fun q=>w.heap.size+1≤q) (Br.mk ⟨yk,ym,yf,yt,ynp,ynn,ync,yns,ykp,ykn,ykc⟩ yks)):=Lib.hid (hyo.mono (fun q hq=>by simpa using hq) _)
  have HX:=Lib.hid hx3
  have HR3:=Lib.hid hr3
  have HG3:Hid ((w.alloc boxZ).grownBy (((((((w2.alloc (.cells #[.int .i64 0,.int .i64 0,.int .i64 0,.int .i64 0,.slice none 0 0,.slice none 0 0] 96)).setCell ⟨w2.heap.size,0,none⟩ (.int .i64 yk)).setCell ⟨w2.heap.size,1,none⟩ (.int .i64 ym)).setCell ⟨w2.heap.size,2,none⟩ (.int .i64 yf)).setCell ⟨w2.heap.size,3,none⟩ (.int .i64 yt)).setCell ⟨w2.heap.size,4,none⟩ (.slice ynp ynn ync)).setCell ⟨w2.heap.size,5,none⟩ (.slice ykp ykn ykc)) (some S.g)):=Lib.hid (grown_own (grown_trans hg2 (grown_below hb3 _)) hgs (fun q hq=>by have:=Option.some.inj hq; simp; omega))
  have HQ3:=Lib.hid hsix
  have HPS:=Lib.hid (rpass_any S n2 d ⟨#[45,62]⟩ (((((((w2.alloc (.cells #[.int .i64 0,.int .i64 0,.int .i64 0,.int .i64 0,.slice none 0 0,.slice none 0 0] 96)).setCell ⟨w2.heap.size,0,none⟩ (.int .i64 yk)).setCell ⟨w2.heap.size,1,none⟩ (.int .i64 ym)).setCell ⟨w2.heap.size,2,none⟩ (.int .i64 yf)).setCell ⟨w2.heap.size,3,none⟩ (.int .i64 yt)).setCell ⟨w2.heap.size,4,none⟩ (.slice ynp ynn ync)).setCell ⟨w2.heap.size,5,none⟩ (.slice ykp ykn ykc)) hr3 (by simp))
  have HEQ:Hid (tot=bif S.is n2 [45,62] then (rec .ty d (n2+1)).bind fun c n3=>.ok (node 43 n n3 [] [Br.pb (Br.mk ⟨yk,ym,yf,yt,ynp,ynn,ync,yns,ykp,ykn,ykc⟩ yks),c]) n3 else .ok (Br.pb (Br.mk ⟨yk,ym,yf,yt,ynp,ynn,ync,yns,ykp,ykn,ykc⟩ yks)) n2):=Lib.hid (by rw [HTOT.out,hpo,bind_ok,hyp])
  have hszs:(((((((w2.alloc (.cells #[.int .i64 0,.int .i64 0,.int .i64 0,.int .i64 0,.slice none 0 0,.slice none 0 0] 96)).setCell ⟨w2.heap.size,0,none⟩ (.int .i64 yk)).setCell ⟨w2.heap.size,1,none⟩ (.int .i64 ym)).setCell ⟨w2.heap.size,2,none⟩ (.int .i64 yf)).setCell ⟨w2.heap.size,3,none⟩ (.int .i64 yt)).setCell ⟨w2.heap.size,4,none⟩ (.slice ynp ynn ync)).setCell ⟨w2.heap.size,5,none⟩ (.slice ykp ykn ykc)).heap.size=w2.heap.size+1:=by simp
  have HSZ:=Lib.hid hszs
  have qq:=Lib.cell_of_heap hrb3
  have r0:=qq 0
  have r1:=qq 1
  have r2:=qq 2
  have r3:=qq 3
  have r4:=qq 4
  have r5:=qq 5
  simp only [List.getElem?_toArray,List.getElem?_cons_zero,List.getElem?_cons_succ,boxZ] at r0 r1 r2 r3 r4 r5
  clear qq
  have fz:∀ i,(w2.alloc (.cells #[.int .i64 0,.int .i64 0,.int .i64 0,.int .i64 0,.slice none 0 0,.slice none 0 0] 96)).frozen? ⟨w2.heap.size,i,none⟩=false:=fun i=>cells_frozen hrb3 i
  have f0:=fz 0
  have f1:=fz 1
  have f2:=fz 2
  have f3:=fz 3
  have f4:=fz 4
  have f5:=fz 5
  clear hpo hyl hyo hyp hr2 hg2 hb3 hrb3 hsix hgs hr3 hx2 hx3 hyo2 hyl3 fz HTOT HP HR1 HB1 hszs
  rename_i K1 hK1 K0 hK0
  show K0 _ _
  refine hK0 _ _ ?_
  refine wpList_step fun K2 hK2=>?_
  rw [if_pos (wanted_none rfl)]
  unfold Oper.wp
  have hrun:∀ a:Act,(execOp a.eval ⟨some 4,.alloc 96,0,"terms.go:156",#[],none⟩).run Tryz.prog w2=.ok (.value (.pointer (some ⟨w2.heap.size,0,none⟩))) (w2.alloc (.cells #[.int .i64 0,.int .i64 0,.int .i64 0,.int .i64 0,.slice none 0 0,.slice none 0 0] 96)):=fun a=>by
   generalize a.eval=ρ
   simp [go_sem]
   try rfl
  rw [hrun,Oper.upon_value]
  refine hK2 _ _ ?_
  clear hrun hK2 hK0
  simp only [Hd.val,Br.h,Act.put,List.setIfInBounds_toArray,List.set_cons_zero,List.set_cons_succ] at *
  generalize hb4:w2.heap.size=b4 at *
  generalize w2.alloc (.cells #[.int .i64 0,.int .i64 0,.int .i64 0,.int .i64 0,.slice none 0 0,.slice none 0 0] 96)=wA at *
  clear hb4
  go_wp2_with fail
  refine HPS.out.mono ?_
  rintro e w4 ⟨rfl,hr4,hg4⟩
  have HB4:=Lib.hid ((hg4.block b4 (by rw [HSZ.out]; omega) (fun e=>hn2 (Option.some.inj e))).trans HQ3.out)
  have HX4:=Lib.hid ((hg4.block bx (by rw [HSZ.out]; omega) (fun e=>hbg (Option.some.inj e))).trans HX.out)
  have HYL4:Hid (Br.Lies w4 (Br.mk ⟨yk,ym,yf,yt,ynp,ynn,ync,yns,ykp,ykn,ykc⟩ yks)):=Lib.hid (Br.Lies.kept (P:=fun q=>w.heap.size+1≤q) _ hg4.size (fun q hq hlt=>hg4.block q hlt (fun e=>by have:=Option.some.inj e; omega)) HYO.out HYL.out)
  have HG4:=Lib.hid (grown_trans HG3.out hg4)
  have hz4:b4 < w4.heap.size:=by have:=hg4.size; have h2:=HSZ.out; omega
  have hz4g:w.heap.size < w4.heap.size:=by omega
  have hbx4:bx < w4.heap.size:=by omega
  clear hg4 HPS HX HR3 HG3 HQ3 HYL HSZ r0 r1 r2 r3 r4 r5 f0 f1 f2 f3 f4 f5 qx3
  have hB4:=HB4.out
  have qq:=Lib.cell_of_heap hB4
  have q0:=qq 0
  have q1:=qq 1
  have q2:=qq 2
  have q3:=qq 3
  have q4:=qq 4
  have q5:=qq 5
  simp only [List.getElem?_toArray,List.getElem?_cons_zero,List.getElem?_cons_succ,boxZ] at q0 q1 q2 q3 q4 q5
  clear qq
  have qx4:=Lib.cell_of_heap HX4.out 0
  simp only [List.getElem?_toArray,List.getElem?_cons_zero] at qx4
  clear hB4
  generalize ((((((wA.setCell ⟨b4,0,none⟩ (.int .i64 yk)).setCell ⟨b4,1,none⟩ (.int .i64 ym)).setCell ⟨b4,2,none⟩ (.int .i64 yf)).setCell ⟨b4,3,none⟩ (.int .i64 yt)).setCell ⟨b4,4,none⟩ (.slice ynp ynn ync)).setCell ⟨b4,5,none⟩ (.slice ykp ykn ykc))=w3 at *
  cases his:S.is n2 [45,62]
  ·have HEQ2:Hid (tot=.ok (Br.pb (Br.mk ⟨yk,ym,yf,yt,ynp,ynn,ync,yns,ykp,ykn,ykc⟩ yks)) n2):=Lib.hid (by rw [HEQ.out,his]; rfl)
   (try rw [his] at hr4)
   simp only [cond_false,cond_true] at hr4
   have FIN:=Lib.hid (fin_box (o:=tot) _ yk ym yf yt ynp ynn ync yns ykp ykn ykc yks hr4 HG4.out hgl hgwl HEQ2.out HYL4.out HYO.out rfl)
   clear hr4 his
   have c0:=FIN.out.c0
   have c1:=FIN.out.c1
   have c2:=FIN.out.c2
   have c3:=FIN.out.c3
   have c4:=FIN.out.c4
   have c5:=FIN.out.c5
   have f0:=FIN.out.fz 0
   have f1:=FIN.out.fz 1
   have f2:=FIN.out.fz 2
   have f3:=FIN.out.fz 3
   have f4:=FIN.out.fz 4
   have f5:=FIN.out.fz 5
   go_wp2_with fail
   obtain ⟨_,_,_,_,_,_,_,d0,d1,d2,d3,d4,d5,hfin⟩:=FIN.out
   refine bodyPost_ret (by simp [results,Tryz.results276,go_sem,d0,d1,d2,d3,d4,d5,Result.andThen]; try rfl) rfl ?_
   exact hfin
  ·have HEQ2:Hid (tot=(rec .ty d (n2+1)).bind fun c n3=>.ok (node 43 n n3 [] [Br.pb (Br.mk ⟨yk,ym,yf,yt,ynp,ynn,ync,yns,ykp,ykn,ykc⟩ yks),c]) n3):=Lib.hid (by rw [HEQ.out,his]; rfl)
   (try rw [his] at hr4)
   simp only [cond_false,cond_true] at hr4
   have HR4:=Lib.hid hr4
   have hr4l:=hr4.lt
   clear hr4 his
   go_wp2_with fail
   refine wp_region_till (fun W:World=>W.heap[b4]?=some (.cells #[.int .i64 yk,.int .i64 ym,.int .i64 yf,.int .i64 yt,.slice ynp ynn ync,.slice ykp ykn ykc] 96 (0,0))∧W.heap[bx]?=some (.cells #[.pointer (some ⟨S.g,0,none⟩)] 143 (0,0))) 7 (by kernel_rfl) ?_
   have hbd:=(Below.refl w4.heap.size w4).drew
   have hS:(fun W:World=>W.heap[b4]?=some (.cells #[.int .i64 yk,.int .i64 ym,.int .i64 yf,.int .i64 yt,.slice ynp ynn ync,.slice ykp ykn ykc] 96 (0,0))∧W.heap[bx]?=some (.cells #[.pointer (some ⟨S.g,0,none⟩)] 143 (0,0))) w4.drew:=⟨HB4.out,HX4.out⟩
   have HT:=Lib.hid (hs.ty (n2+1) w4.drew (HR4.out.step hbd) (bind_dry (by rw [← HEQ2.out]; exact HDRY.out)))
   have HYLd:=Lib.hid (HYL4.out.step _ hbd)
   have HGd:=Lib.hid (grown_trans HG4.out (grown_below hbd _))
   have HBd:=Lib.hid hS
   have hzd:w4.drew.heap.size=w4.heap.size:=rfl
   rw [← hzd] at hz4 hz4g hbx4 hr4l
   refine start_fp (N:=17) [(0,.int .i64 (n:Int)),(1,.pointer (some ⟨bx,0,none⟩)),(3,.pointer (some ⟨w.heap.size,0,none⟩)),(4,.pointer (some ⟨b4,0,none⟩))] (Fs.of rfl rfl (by simp [Act.eval])) ?_
   intro a0 ha0 hF
   clear hzd hbd HR4 HG4 HYL4 HB4 HX4
   generalize w4.drew=wd at *
   refine take_fp 0 [6,7] (oi:=⟨some 9,.load 143 (.tmp 1),143,"terms.go:158",#[],none⟩) (d:=9) (v:=.pointer (some ⟨S.g,0,none⟩)) hF hS rfl rfl (by decide) (by kernel_rfl) (by kernel_rfl) (by kernel_rfl) (by kernel_rfl) (fun _ _ _ h=>h) (fun a' hA=>wanted_none rfl) (fun a' hA w' hw=>by have e1:=hA.get 1 rfl; have ec:∀ v,a'.eval (.const v)=v:=fun _=>rfl; have q0:=Lib.cell_of_heap hw.2 0; simp only [List.getElem?_toArray,List.getElem?_cons_zero] at q0; clear hA; generalize a'.eval=ρ at *; simp [go_sem,ec,e1,q0]; try rfl) ?_
   clear hF
   intro hF
   refine take_fp 1 [6,7] (oi:=⟨some 10,.move (.tmp 0),3,"terms.go:158",#[],none⟩) (d:=10) (v:=.int .i64 (n:Int)) hF hS rfl rfl (by decide) (by kernel_rfl) (by kernel_rfl) (by kernel_rfl) (by kernel_rfl) (fun _ _ _ h=>h) (fun a' hA=>wanted_none rfl) (run_move_fs rfl rfl) ?_
   clear hF
   intro hF
   refine take_fp 2 [5,6,7] (oi:=⟨some 11,.load 96 (.tmp 4),96,"terms.go:158",#[],none⟩) (d:=11) (v:=.agg #[.int .i64 yk,.int .i64 ym,.int .i64 yf,.int .i64 yt,.slice ynp ynn ync,.slice ykp ykn ykc]) hF hS rfl rfl (by decide) (by kernel_rfl) (by kernel_rfl) (by kernel_rfl) (by kernel_rfl) (fun _ _ _ h=>h) (fun a' hA=>wanted_none rfl) (fun a' hA w' hw=>by have e4:=hA.get 4 rfl; have ec:∀ v,a'.eval (.const v)=v:=fun _=>rfl; have qq:=Lib.cell_of_heap hw.1; have q0:=qq 0; have q1:=qq 1; have q2:=qq 2; have q3:=qq 3; have q4:=qq 4; have q5:=qq 5; simp only [List.getElem?_toArray,List.getElem?_cons_zero,List.getElem?_cons_succ] at q0 q1 q2 q3 q4 q5; clear qq; clear hA; generalize a'.eval=ρ at *; simp [go_sem,ec,e4,q0,q1,q2,q3,q4,q5]; try rfl) ?_
   clear hF
   intro hF
   refine take_fp 3 [4,5,6,7] (oi:=⟨some 12,.load 143 (.tmp 1),143,"terms.go:158",#[],none⟩) (d:=12) (v:=.pointer (some ⟨S.g,0,none⟩)) hF hS rfl rfl (by decide) (by kernel_rfl) (by kernel_rfl) (by kernel_rfl) (by kernel_rfl) (fun _ _ _ h=>h) (fun a' hA=>wanted_none rfl) (fun a' hA w' hw=>by have e1:=hA.get 1 rfl; have ec:∀ v,a'.eval (.const v)=v:=fun _=>rfl; have q0:=Lib.cell_of_heap hw.2 0; simp only [List.getElem?_toArray,List.getElem?_cons_zero] at q0; clear hA; generalize a'.eval=ρ at *; simp [go_sem,ec,e1,q0]; try rfl) ?_
   clear hF
   intro hF
   refine wpTill_alone 4 (by kernel_rfl) (call_op 4 (oi:=⟨some 13,.call ⟨.value (.func 236),#[.tmp 12],#[143]⟩,96,"terms.go:158",#[⟨3,.data⟩],none⟩) (d:=13) (R:=fun e w'=>Ends S d wd (rec .ty d (n2+1)) (RB wd) e w') hF rfl rfl (by decide) (fun a' hA=>wanted_none rfl) (fun a' hA=>by have e12:=hA.get 12 rfl; have ef:∀ f,a'.eval (.func f)=.func (.func f) #[] #[]:=fun _=>rfl; have ec:∀ v,a'.eval (.const v)=v:=fun _=>rfl; clear hA; generalize a'.eval=ρ at *; simp [go_sem,ef,ec,e12]) HT.out (fun w'=>Ends.noOut) ?_ ?_)
   ·rintro ch w' (⟨_,_,_,_,h2,_⟩ | ⟨ch',ho,h2,hg⟩)
    ·cases h2
    ·have h2:=Ending.panicked.inj h2
     subst h2
     have hq:bodyPost Tryz.prog Tryz.f276 (fun e w'=>Ends S d w tot (RB w) e w') (.panic ch) _ w':=⟨hF.2.1,Or.inr ⟨ch,by rw [HEQ2.out]; exact pan_bind ho,rfl,grown_trans (grown_below ((Below.refl _ _).alloc (Nat.le_refl _) _) _) (grown_trans HGd.out hg)⟩⟩
     exact hq
   rintro v w5 (⟨c,n3,v',hco,h2,⟨z,hv,hzl,hzo,hzp⟩,hr5,hg5⟩ | ⟨_,_,h2,_⟩) hF2
   rotate_left
   ·cases h2
   have h2:=Ending.returned.inj h2
   subst h2
   obtain ⟨⟨zk,zm,zf,zt,znp,znn,znc,zns,zkp,zkn,zkc⟩,zks⟩:=z
   have hv2:v=.agg #[.int .i64 zk,.int .i64 zm,.int .i64 zf,.int .i64 zt,.slice znp znn znc,.slice zkp zkn zkc]:=hv
   subst hv2
   clear hv hF
   have hF:=hF2
   clear hF2
   have hb6:Below w5.heap.size w5 (w5.alloc (.cells #[.int .i64 yk,.int .i64 ym,.int .i64 yf,.int .i64 yt,.slice ynp ynn ync,.slice ykp ykn ykc,.int .i64 zk,.int .i64 zm,.int .i64 zf,.int .i64 zt,.slice znp znn znc,.slice zkp zkn zkc] 96)):=(Below.refl _ _).alloc (Nat.le_refl _) _
   have hz5:wd.heap.size≤w5.heap.size:=hg5.size
   have hB5:(fun W:World=>W.heap[b4]?=some (.cells #[.int .i64 yk,.int .i64 ym,.int .i64 yf,.int .i64 yt,.slice ynp ynn ync,.slice ykp ykn ykc] 96 (0,0))∧W.heap[bx]?=some (.cells #[.pointer (some ⟨S.g,0,none⟩)] 143 (0,0))) w5:=⟨(hg5.block b4 (by omega) (fun e=>by have:=Option.some.inj e; omega)).trans HBd.out.1,(hg5.block bx (by omega) (fun e=>hbg (Option.some.inj e))).trans HBd.out.2⟩
   have hB6:(fun W:World=>W.heap[b4]?=some (.cells #[.int .i64 yk,.int .i64 ym,.int .i64 yf,.int .i64 yt,.slice ynp ynn ync,.slice ykp ykn ykc] 96 (0,0))∧W.heap[bx]?=some (.cells #[.pointer (some ⟨S.g,0,none⟩)] 143 (0,0))) (w5.alloc (.cells #[.int .i64 yk,.int .i64 ym,.int .i64 yf,.int .i64 yt,.slice ynp ynn ync,.slice ykp ykn ykc,.int .i64 zk,.int .i64 zm,.int .i64 zf,.int .i64 zt,.slice znp znn znc,.slice zkp zkn zkc] 96)):=⟨(hb6.block b4 (by omega)).trans hB5.1,(hb6.block bx (by omega)).trans hB5.2⟩
   have HK6:=Lib.hid (heap_alloc_new w5 (.cells #[.int .i64 yk,.int .i64 ym,.int .i64 yf,.int .i64 yt,.slice ynp ynn ync,.slice ykp ykn ykc,.int .i64 zk,.int .i64 zm,.int .i64 zf,.int .i64 zt,.slice znp znn znc,.slice zkp zkn zkc] 96))
   have HR6:=Lib.hid (hr5.step hb6)
   have HYL6:Hid (Br.Lies (w5.alloc (.cells #[.int .i64 yk,.int .i64 ym,.int .i64 yf,.int .i64 yt,.slice ynp ynn ync,.slice ykp ykn ykc,.int .i64 zk,.int .i64 zm,.int .i64 zf,.int .i64 zt,.slice znp znn znc,.slice zkp zkn zkc] 96)) (Br.mk ⟨yk,ym,yf,yt,ynp,ynn,ync,yns,ykp,ykn,ykc⟩ yks)):=Lib.hid ((Br.Lies.kept (P:=fun q=>w.heap.size+1≤q) _ hg5.size (fun q hq hlt=>hg5.block q hlt (fun e=>by have:=Option.some.inj e; omega)) HYO.out HYLd.out).step _ hb6)
   have HZL6:Hid (Br.Lies (w5.alloc (.cells #[.int .i64 yk,.int .i64 ym,.int .i64 yf,.int .i64 yt,.slice ynp ynn ync,.slice ykp ykn ykc,.int .i64 zk,.int .i64 zm,.int .i64 zf,.int .i64 zt,.slice znp znn znc,.slice zkp zkn zkc] 96)) (Br.mk ⟨zk,zm,zf,zt,znp,znn,znc,zns,zkp,zkn,zkc⟩ zks)):=Lib.hid (hzl.step _ hb6)
   have HZO:Hid (Br.On (fun q=>w.heap.size+1≤q∧some q≠some w5.heap.size) (Br.mk ⟨zk,zm,zf,zt,znp,znn,znc,zns,zkp,zkn,zkc⟩ zks)):=Lib.hid ((Br.On.low _ hzo hzl).mono (fun q hq=>⟨by have:=hq.1; omega,fun e=>by have:=Option.some.inj e; have:=hq.2; omega⟩) _)
   have HYO6:Hid (Br.On (fun q=>w.heap.size+1≤q∧some q≠some w5.heap.size) (Br.mk ⟨yk,ym,yf,yt,ynp,ynn,ync,yns,ykp,ykn,ykc⟩ yks)):=Lib.hid ((Br.On.low _ HYO.out HYLd.out).mono (fun q hq=>⟨hq.1,fun e=>by have:=Option.some.inj e; have:=hq.2; omega⟩) _)
   have HG6:=Lib.hid (grown_trans (grown_trans HGd.out hg5) (grown_below hb6 _))
   have HEQ3:Hid (tot=.ok (node 43 n n3 [] [Br.pb (Br.mk ⟨yk,ym,yf,yt,ynp,ynn,ync,yns,ykp,ykn,ykc⟩ yks),Br.pb (Br.mk ⟨zk,zm,zf,zt,znp,znn,znc,zns,zkp,zkn,zkc⟩ zks)]) n3):=Lib.hid (by rw [HEQ2.out,hco,bind_ok,hzp])
   have hk5:w.heap.size+1≤w5.heap.size:=by omega
   have HBR:=Lib.hid (rbranch_any S n3 d 43 n none 0 0 (some ⟨w5.heap.size,0,none⟩) 2 2 _ HR6.out)
   refine ⟨fun _=>hB5,?_⟩
   refine wpTill_alone 5 (by kernel_rfl) (make_op 5 (oi:=⟨some 14,.buildSlice 94 2 #[(0,.tmp 11),(1,.tmp 13)],94,"terms.go:158",#[⟨2,.data⟩,⟨4,.data⟩],none⟩) (d:=14) (v:=.slice (some ⟨w5.heap.size,0,none⟩) 2 2) (w':=w5.alloc (.cells #[.int .i64 yk,.int .i64 ym,.int .i64 yf,.int .i64 yt,.slice ynp ynn ync,.slice ykp ykn ykc,.int .i64 zk,.int .i64 zm,.int .i64 zf,.int .i64 zt,.slice znp znn znc,.slice zkp zkn zkc] 96)) hF rfl rfl (by decide) (fun a' hA=>wanted_none rfl) (fun a' hA=>by have e11:=hA.get 11 rfl; have e13:=hA.get 13 rfl; have ec:∀ v,a'.eval (.const v)=v:=fun _=>rfl; clear hA; generalize a'.eval=ρ at *; simp [go_sem,ec,e11,e13]; try rfl) ?_)
   clear hF
   intro hF
   refine ⟨fun _=>hB6,?_⟩
   refine wpTill_alone 6 (by kernel_rfl) (call_op 6 (oi:=⟨some 15,.call ⟨.value (.func 121),#[.tmp 9,.const (.int .i64 43),.tmp 10,.const (.slice none 0 0),.tmp 14],#[143,3,3,23,94]⟩,96,"terms.go:158",#[⟨0,.data⟩,⟨1,.data⟩,⟨5,.data⟩,⟨4,.chain⟩],none⟩) (d:=15) (R:=fun e w'=>e=.returned (.agg #[.int .i64 43,.int .i64 0,.int .i64 (n:Int),.int .i64 (n3:Int),.slice none 0 0,.slice (some ⟨w5.heap.size,0,none⟩) 2 2])∧Below (w5.alloc (.cells #[.int .i64 yk,.int .i64 ym,.int .i64 yf,.int .i64 yt,.slice ynp ynn ync,.slice ykp ykn ykc,.int .i64 zk,.int .i64 zm,.int .i64 zf,.int .i64 zt,.slice znp znn znc,.slice zkp zkn zkc] 96)).heap.size (w5.alloc (.cells #[.int .i64 yk,.int .i64 ym,.int .i64 yf,.int .i64 yt,.slice ynp ynn ync,.slice ykp ykn ykc,.int .i64 zk,.int .i64 zm,.int .i64 zf,.int .i64 zt,.slice znp znn znc,.slice zkp zkn zkc] 96)) w') hF rfl rfl (by decide) (fun a' hA=>wanted_none rfl) (fun a' hA=>by have e9:=hA.get 9 rfl; have e10:=hA.get 10 rfl; have e14:=hA.get 14 rfl; have ef:∀ f,a'.eval (.func f)=.func (.func f) #[] #[]:=fun _=>rfl; have ec:∀ v,a'.eval (.const v)=v:=fun _=>rfl; clear hA; generalize a'.eval=ρ at *; simp [go_sem,ef,ec,e9,e10,e14]) HBR.out (by rintro w' ⟨h,_⟩; cases h) ?_ ?_)
   ·rintro ch w' ⟨h,_⟩
    cases h
   rintro v w7 ⟨h,hb7⟩
   have h:=Ending.returned.inj h
   subst h
   have hz6:(w5.alloc (.cells #[.int .i64 yk,.int .i64 ym,.int .i64 yf,.int .i64 yt,.slice ynp ynn ync,.slice ykp ykn ykc,.int .i64 zk,.int .i64 zm,.int .i64 zf,.int .i64 zt,.slice znp znn znc,.slice zkp zkn zkc] 96)).heap.size=w5.heap.size+1:=by simp
   refine fun hF2=>⟨fun _=>⟨(hb7.block b4 (by omega)).trans hB6.1,(hb7.block bx (by omega)).trans hB6.2⟩,?_⟩
   clear hF
   have hF:=hF2
   clear hF2
   have hown:=own_lit (n:=2) (size:=6) (w:=w7) (base:=w.heap.size+1) ((hb7.block _ (Array.getElem?_eq_some_iff.1 HK6.out).1).trans HK6.out) hk5 rfl (by unfold maxLen; omega)
   have hK:Kids (w.heap.size+1) (.slice (some ⟨w5.heap.size,0,none⟩) 2 2) w7 [(Br.mk ⟨yk,ym,yf,yt,ynp,ynn,ync,yns,ykp,ykn,ykc⟩ yks),(Br.mk ⟨zk,zm,zf,zt,znp,znn,znc,zns,zkp,zkn,zkc⟩ zks)]:=fun u hu=>by
    rcases List.mem_cons.1 hu with rfl | hu
    ·exact ⟨HYL6.out.step _ hb7,HYO6.out.mono (fun q hq=>⟨hq.1,fun e=>hq.2 e⟩) _⟩
    ·obtain rfl:=List.mem_singleton.1 hu
     exact ⟨HZL6.out.step _ hb7,HZO.out.mono (fun q hq=>⟨hq.1,fun e=>hq.2 e⟩) _⟩
   have HL:=node_lies (w0:=w) (w1:=w) (N:=w.heap.size+1) 43 0 n n3 (names_none (w:=w7)) hown hK
   have FIN:=Lib.hid (fin_box (o:=tot) (node 43 n n3 [] [Br.pb (Br.mk ⟨yk,ym,yf,yt,ynp,ynn,ync,yns,ykp,ykn,ykc⟩ yks),Br.pb (Br.mk ⟨zk,zm,zf,zt,znp,znn,znc,zns,zkp,zkn,zkc⟩ zks)]) 43 0 n n3 none 0 0 _ (some ⟨w5.heap.size,0,none⟩) 2 2 [(Br.mk ⟨yk,ym,yf,yt,ynp,ynn,ync,yns,ykp,ykn,ykc⟩ yks),(Br.mk ⟨zk,zm,zf,zt,znp,znn,znc,zns,zkp,zkn,zkc⟩ zks)] (HR6.out.step hb7) (grown_trans HG6.out (grown_below hb7 _)) hgl hgwl HEQ3.out HL.1 HL.2 (by simp [Br.pb,pbs,node]))
   refine wpTill_alone 7 (by kernel_rfl) (store_op 7 (oi:=⟨none,.store 96 (.tmp 3) (.tmp 15),0,"terms.go:158",#[⟨6,.data⟩,⟨6,.chain⟩,⟨0,.phase⟩,⟨1,.phase⟩,⟨2,.phase⟩,⟨3,.phase⟩,⟨4,.phase⟩,⟨5,.phase⟩,⟨6,.phase⟩],none⟩) (w':=((((((w7.setCell ⟨w.heap.size,0,none⟩ (.int .i64 43)).setCell ⟨w.heap.size,1,none⟩ (.int .i64 0)).setCell ⟨w.heap.size,2,none⟩ (.int .i64 (n:Int))).setCell ⟨w.heap.size,3,none⟩ (.int .i64 (n3:Int))).setCell ⟨w.heap.size,4,none⟩ (.slice none 0 0)).setCell ⟨w.heap.size,5,none⟩ (.slice (some ⟨w5.heap.size,0,none⟩) 2 2))) hF rfl rfl (fun a' hA=>wanted_none rfl) (fun a' hA=>?_) ?_)
   ·have e3:=hA.get 3 rfl
    have e15:=hA.get 15 rfl
    have c0:=FIN.out.c0
    have c1:=FIN.out.c1
    have c2:=FIN.out.c2
    have c3:=FIN.out.c3
    have c4:=FIN.out.c4
    have c5:=FIN.out.c5
    have f0:=FIN.out.fz 0
    have f1:=FIN.out.fz 1
    have f2:=FIN.out.fz 2
    have f3:=FIN.out.fz 3
    have f4:=FIN.out.fz 4
    have f5:=FIN.out.fz 5
    clear hA hF
    generalize a'.eval=ρ at *
    simp [go_sem,e3,e15,c0,c1,c2,c3,c4,c5,f0,f1,f2,f3,f4,f5]
   refine ⟨fun h=>absurd h (by decide),?_⟩
   refine wpTill_done (by kernel_rfl) ?_ _
   subst ha0
   simp only [Act.put,List.setIfInBounds_toArray,List.set_cons_zero,List.set_cons_succ]
   clear HL hown hK hb7 hB6 hB5 hb6 hr5 hg5 hco hzl hzo hzp hF hS
   go_wp2_with fail
   obtain ⟨_,_,_,_,_,_,_,d0,d1,d2,d3,d4,d5,hfin⟩:=FIN.out
   refine bodyPost_ret (by simp [results,Tryz.results276,go_sem,d0,d1,d2,d3,d4,d5,Result.andThen]; try rfl) rfl ?_
   exact hfin
 ·exact ⟨rfl,Or.inr ⟨ch,by rw [HTOT.out]; exact pan_bind ho,rfl,grown_trans (grown_below ((Below.refl _ _).alloc (Nat.le_refl _) _) _) hg2⟩⟩
end Go.Proofs.YtmpmfamiegpmgaaGreatDoor
