/-
  The law UnitKeeps, walked.; The law UnitKeeps, as its row wants it.
-/
import Derived.Test.YtmpmfamiegpmgaaGreatDoorGJD
import Derived.Deep.Cut
namespace Go.Proofs.YtmpmfamiegpmgaaGreatDoor
open Tryz
open Go.Lib (cell_of_heap hid)
open Go.RowKit
set_option maxRecDepth 20000
set_option linter.unusedVariables false
set_option linter.unusedSimpArgs false
set_option maxHeartbeats 40000000 in
theorem IQ (fs:List bn) (p:Option Addr) (n c:Nat) (W:World) (hn63:n≤9223372036854775807) (h:FIn W p n c fs) (hk:Kw W) :
  Calls prog 12 #[.slice p n c] W fun e w'=>e=.returned (.bool true)∧Below W.heap.size W w':=by
 have HF:=hid (Kq fs p n c W h hn63);have HI:=hid h;have HK:=hid hk;have HA:=hid (fun w=>Ep w);have HN:Hid (n=fs.length):=hid h.1;clear h hk hn63
 go_enter func12,ntmps12
 go_wp2_with fail
 refine HF.out.mono ?_
 rintro e w1 ⟨b,rfl,hfew,d,rfl⟩;have hb1:Below W.heap.size W (W.drewN d):=below_drewN (Below.refl _ _) d;have HB1:=hid hb1;have HFW:=hid hfew;clear hb1 hfew HF
 cases b
 ·have H8:=hid (HA.out (W.drewN d) (HK.out.step HB1.out))
  go_wp2_with fail
  refine H8.out.mono ?_
  rintro e w2 ⟨rfl,hb2⟩;have HB2:=hid (HB1.out.trans (hb2.mono HB1.out.size));clear hb2 H8
  go_wp2_with fail
  go_ret
  exact ⟨rfl,HB2.out⟩
 have qm:Hid (QY fs):=hid (HFW.out rfl);have KH:Hid (n≤4):=hid (by have:=qm.out.len; have:=HN.out; omega);have HI1:=hid (MW HI.out d);obtain ⟨t,ht⟩:=NT (fs.map (·.1));have HT:=hid ht;have WT:=hid (wC fs t _ n c (W.drewN d) (HK.out.step HB1.out) HI1.out (by have:=KH.out; omega) (by have:=qm.out.sum; omega) (fun f hf=>by have:=qm.out.each f hf; omega) (fun f hf=>by have:=qm.out.each f hf; omega) ht);have Xj:Hid (∀ W2 q c2,Below W.heap.size W W2→FIn W2 q fs.length c2 fs→Calls prog 39 #[.slice q fs.length c2] W2 (BX fs t jw lF W2)):=hid fun W2 q c2 hb hf=>wC fs t q _ c2 W2 (HK.out.step hb) hf (by have:=qm.out.len; omega) (by have:=qm.out.sum; omega) (fun f hf=>by have:=qm.out.each f hf; omega) (fun f hf=>by have:=qm.out.each f hf; omega) HT.out
 clear ht HFW;generalize W.drewN d=w1 at *
 go_wp2_with fail
 refine WT.out.mono ?_
 rintro e w2 hc1;obtain ⟨q,x1,x2,x3,rfl,hq⟩:=D6 hc1;obtain ⟨w3,hw3⟩:∃ w3,w3=w2.alloc (.cells #[.int .i64 x1,.int .i64 x2,.int .i64 x3] 65):=⟨_,rfl⟩
 have hb2:Below W.heap.size W w2:=HB1.out.trans (hc1.1.mono HB1.out.size);have Ud:Below w2.heap.size w2 w3:=by rw [hw3]; exact (Below.refl _ _).alloc (Nat.le_refl _) _
 have hb3:Below W.heap.size W w3:=hb2.trans (Ud.mono hb2.size);have hc3:=cell_of_heap (heap_alloc_new w2 (.cells #[.int .i64 x1,.int .i64 x2,.int .i64 x3] 65));rw [← hw3] at hc3;have z0:w3.cell? ⟨w2.heap.size,0,none⟩=some (.int .i64 x1):=hc3 0;have z1:w3.cell? ⟨w2.heap.size,1,none⟩=some (.int .i64 x2):=hc3 1;have z2:w3.cell? ⟨w2.heap.size,2,none⟩=some (.int .i64 x3):=hc3 2;have HB3:=hid hb3;have PR:=hid Ud;have HW3:=hid hw3;have HQ:=hid hq;clear hc1 hb2 Ud hb3 hw3 hc3 hq WT
 rcases HQ.out with ⟨rfl,hx1⟩ | ⟨rfl,rfl,rfl,hrk,pu,gp,qs,nds,rfl,hld⟩
 ·have hne:=fun w=>aaW w x1 x2 x3 hx1
  have H8:=hid (HA.out w3 (HK.out.step HB3.out));clear HQ hx1
  go_upto_region 4 with (fail)
  rw [← HW3.out]
  go_wp2_with fail
  refine H8.out.mono ?_
  rintro e w4 ⟨rfl,hb4⟩;have HB4:=hid (HB3.out.trans (hb4.mono HB3.out.size));clear hb4 H8
  go_wp2_with fail
  go_ret
  exact ⟨rfl,HB4.out⟩
 have heq:=SG;have hfs:qs.map (fun q=>q.pc.f)=fs:=(rq hld hld (fun f hf=>by have:=qm.out.each f hf; omega)).2.2.2;have HU3:Hid (lC w1.heap.size fs pu gp qs nds w3):=hid (Oq hld qm.out.each PR.out);have Yk:=hid hld;have TW:=hid hrk;have HFS:=hid hfs;have HX3:=hid (HU3.out.files hfs qm.out.len);clear HQ hld hrk hfs
 go_upto_region 4 with (fail)
 rw [← HW3.out]
 go_wp2_with fail
 clear z0 z1 z2 HW3 heq;refine HX3.out.mono ?_
 rintro e w4 ⟨q4,c4,rfl,hr4,hb4⟩;have HB4:=hid (HB3.out.trans (hb4.mono HB3.out.size));have Ue:=hid (PR.out.trans (hb4.mono PR.out.size));have HL4:=hid (Xj.out w4 q4 c4 HB4.out (ww hr4 rfl));clear hr4 hb4 HX3 Xj
 go_wp2_with fail
 refine HL4.out.mono ?_
 rintro e w5 hc5;obtain ⟨_,pv,gv,qt,ndt,hlv,hev⟩:=MH Yk.out.parts TW.out HT.out (List.Sublist.refl fs) HT.out 0 (fun i f hi=>by rw [Nat.zero_add]; exact hi) hc5;subst hev;obtain ⟨w7,hw7⟩:∃ w7,w7=w5.alloc (.cells #[.int .i64 0,.int .i64 0,.int .i64 0] 65):=⟨_,rfl⟩
 have hb5:Below W.heap.size W w5:=HB4.out.trans (hc5.1.mono HB4.out.size);have PS:Below w5.heap.size w5 w7:=by rw [hw7]; exact (Below.refl _ _).alloc (Nat.le_refl _) _
 have hb7:Below W.heap.size W w7:=hb5.trans (PS.mono hb5.size);have Xk:Below w2.heap.size w2 w7:=Ue.out.trans ((hc5.1.trans (PS.mono hc5.1.size)).mono Ue.out.size);have Yl:w5.heap.size < w7.heap.size:=by rw [hw7]; simp
 have Xl:=cell_of_heap (heap_alloc_new w5 (.cells #[.int .i64 0,.int .i64 0,.int .i64 0] 65));rw [← hw7] at Xl;have HZ:Hid (∀ w',Below w7.heap.size w7 w'→w'.cell? ⟨w5.heap.size,0,none⟩=some (.int .i64 0)∧w'.cell? ⟨w5.heap.size,1,none⟩=some (.int .i64 0)∧w'.cell? ⟨w5.heap.size,2,none⟩=some (.int .i64 0)):=hid fun w' hw =>
  ⟨(hw.cell (p:=⟨w5.heap.size,0,none⟩) Yl).trans (Xl 0),(hw.cell (p:=⟨w5.heap.size,1,none⟩) Yl).trans (Xl 1),(hw.cell (p:=⟨w5.heap.size,2,none⟩) Yl).trans (Xl 2)⟩
 obtain ⟨so,sn,st,sf⟩:=rq Yk.out hlv (fun f hf=>by have:=qm.out.each f hf; omega);have sg:qt.map (fun q=>q.pc.f)=fs:=(rq hlv hlv (fun f hf=>by have:=qm.out.each f hf; omega)).2.2.2;have HU:Hid (lC w1.heap.size fs pu gp qs nds w7):=hid (Oq Yk.out qm.out.each Xk);have HV:Hid (lC w4.heap.size fs pv gv qt ndt w7):=hid (Oq hlv qm.out.each PS);have HSO:=hid so;have HSN:=hid sn;have HST:=hid st;have HSG:=hid sg;have TI:=hid hb7;have WQ:=hid hw7;obtain ⟨M,hM⟩:∃ M,M=(bG qs).length:=⟨_,rfl⟩
 obtain ⟨F,Xm⟩:∃ F,F=fs.length:=⟨_,rfl⟩
 have Xn:=hid hM;have HFe:=hid Xm;have adX:M≤1500:=by have:=HU.out.tot; have:=qm.out.sum; omega
 have hF4:F≤4:=by have:=qm.out.len; omega
 -- the contracts of the looks, at any world behind
 have VH:Hid (∀ w',Below w7.heap.size w7 w'→Calls prog 46 #[.pointer (some ⟨pu,0,none⟩)] w' fun e W'=>∃ q c,e=.returned (.slice q F c)∧W'.ownsRow w'.heap.size 76 2 (.slice q F c) F (kJ fs)∧Below w'.heap.size w' W'):=hid fun w' hw=>by
  rw [Xm]; exact (HU.out.step hw).files HFS.out qm.out.len
 have HCO:Hid (∀ w',Below w7.heap.size w7 w'→Calls prog 49 #[.pointer (some ⟨pu,0,none⟩)] w' fun e W'=>∃ q c,e=.returned (.slice q M c)∧W'.ownsRow w'.heap.size 41 5 (.slice q M c) M (fM (bG qs))∧Below w'.heap.size w' W'):=hid fun w' hw=>by
  rw [hM]; exact (HU.out.step hw).occs qm.out.sum qm.out.len
 have HCN:Hid (∀ w',Below w7.heap.size w7 w'→Calls prog 50 #[.pointer (some ⟨pu,0,none⟩)] w' fun e W'=>∃ q c,e=.returned (.slice q M c)∧W'.ownsRow w'.heap.size 9 1 (.slice q M c) M ((fC qs).map Value.string)∧Below w'.heap.size w' W'):=hid fun w' hw=>by
  rw [hM]; exact (HU.out.step hw).names HFS.out qm.out.sum (fun f hf=>(qm.out.each f hf).2) qm.out.len
 have HCD:Hid (∀ w',Below w7.heap.size w7 w'→Calls prog 48 #[.pointer (some ⟨pu,0,none⟩)] w' fun e W'=>∃ q c ys,e=.returned (.slice q F c)∧W'.ownsRow w'.heap.size 26 6 (.slice q F c) F (bK ys)∧F=ys.length∧(∀ y ∈ ys,y.Lies W'∧y.Few∧Fre w'.heap.size W' y)∧ys.map Br.ntr=nds.map Br.ntr∧Below w'.heap.size w' W'):=hid fun w' hw=>by
  rw [Xm]; exact (HU.out.step hw).nodes qm.out.len
 have HDO:Hid (∀ w',Below w7.heap.size w7 w'→Calls prog 49 #[.pointer (some ⟨pv,0,none⟩)] w' fun e W'=>∃ q c,e=.returned (.slice q M c)∧W'.ownsRow w'.heap.size 41 5 (.slice q M c) M (fM (bG qs))∧Below w'.heap.size w' W'):=hid fun w' hw=>by
  rw [hM,← HSO.out]; exact (HV.out.step hw).occs qm.out.sum qm.out.len
 have HDN:Hid (∀ w',Below w7.heap.size w7 w'→Calls prog 50 #[.pointer (some ⟨pv,0,none⟩)] w' fun e W'=>∃ q c,e=.returned (.slice q M c)∧W'.ownsRow w'.heap.size 9 1 (.slice q M c) M ((fC qs).map Value.string)∧Below w'.heap.size w' W'):=hid fun w' hw=>by
  rw [hM,← HSO.out,← HSN.out]; exact (HV.out.step hw).names HSG.out qm.out.sum (fun f hf=>(qm.out.each f hf).2) qm.out.len
 have O0:Hid (∀ w',Below w7.heap.size w7 w'→Calls prog 48 #[.pointer (some ⟨pv,0,none⟩)] w' fun e W'=>∃ q c ys,e=.returned (.slice q F c)∧W'.ownsRow w'.heap.size 26 6 (.slice q F c) F (bK ys)∧F=ys.length∧(∀ y ∈ ys,y.Lies W'∧y.Few∧Fre w'.heap.size W' y)∧ys.map Br.ntr=nds.map Br.ntr∧Below w'.heap.size w' W'):=hid fun w' hw=>by
  rw [Xm,← HST.out]; exact (HV.out.step hw).nodes qm.out.len
 have aac:Hid (Below w7.heap.size w7 w7):=hid (Below.refl _ _);have HX7:=hid (VH.out w7 aac.out);clear hc5 hlv hb5 PS hb7 Xk Yl Xl hw7 so sn st sf sg hM Xm Yk TW HT HU3 HL4 HU HV PR Ue
 go_upto_region 7 with (fail)
 rw [← WQ.out]
 go_wp2_with fail
 refine HX7.out.mono ?_
 rintro e w8 ⟨qx,cx,rfl,hrx,hb8⟩;have Uf:=hid hb8;have AV:=hid hrx;have HO8:=hid (HCO.out w8 hb8);clear hrx hb8 HX7
 go_wp2_with fail
 refine HO8.out.mono ?_
 rintro e w9 ⟨ql,cl,rfl,hrl,Pm⟩;have Xo:=hid Pm;have PT:=hid (Uf.out.trans (Pm.mono Uf.out.size));have HRL:=hid hrl;have HN9:=hid (HCN.out w9 PT.out);clear hrl Pm HO8
 go_wp2_with fail
 refine HN9.out.mono ?_
 rintro e wa ⟨qn,cn,rfl,hrn,hba⟩;have Ug:=hid hba;have LJ:=hid (PT.out.trans (hba.mono PT.out.size));have HRN:=hid hrn;have HDa:=hid (HCD.out wa LJ.out);clear hrn hba HN9
 go_wp2_with fail
 refine HDa.out.mono ?_
 rintro e wb ⟨qd,cd,ys,rfl,hrd,hyl,hyf,hyn,hbb⟩;have aad:=hid (LJ.out.trans (hbb.mono LJ.out.size));have HX:=hid (kE (row_step (row_step (row_step AV.out Xo.out) Ug.out) hbb) (Nat.le_refl w7.heap.size));have HL:=hid (kE (row_step (row_step HRL.out Ug.out) hbb) Uf.out.size);have HNm:=hid (kE (row_step HRN.out hbb) PT.out.size);have HD:=hid (kE hrd LJ.out.size);have tZ:=hid hyl;have Yv:Hid (∀ y ∈ ys,UB w7.heap.size wb y):=hid fun y hy=>by
  obtain ⟨f1,f2,f3⟩:=hyf y hy;exact aak f1 f2 (f3.mono LJ.out.size)
 clear hrd hyl hyf hyn hbb HDa AV HRL HRN Xo Ug
 go_wp2_with fail
 go_loopw [49] (fun i wr=>∃ k:Nat,k≤F∧i=.int .i64 k∧Hid (Kd wb wr)∧Hid (Below w7.heap.size w7 wr)) (fun i _=>F - (intOf i).toNat)
 case atStart=>exact ⟨0,by omega,rfl,hid (Kd.refl _),aad⟩
 case round =>
  obtain ⟨k,hk,rfl,ny,rQ⟩:=hrel
  by_cases hlt:k < F
  ·obtain ⟨g,cs,rfl,hle,hg,hh⟩:=tu HX.out (by omega)
   obtain ⟨f,hf⟩:∃ f,fs[k]?=some f:=⟨_,List.getElem?_eq_getElem (by have:=HFe.out; omega)⟩
   obtain ⟨tx,c0⟩:=ny.out.str g (k * 2+1) _ (kC HX.out (k * 2+1) _ (wO fs k f hf).2);obtain ⟨cs',hh'⟩:=ny.out.blk _ _ _ hh;have f0:=JY hh' (k * 2+1);have GH:=hid (ny.out.setS hh' c0 ⟨#[63]⟩);have EE:=hid (rQ.out.setCell (p:=⟨g,k * 2+1,none⟩) hg (.string ⟨#[63]⟩));have r1:(0:Int)≤(k:Int):=by omega
   have r2:(k:Int) < (F:Int):=by omega
   clear hf hh hh' hg
   go_wp2_with fail
   go_roundw
   case rel=>exact ⟨k+1,by omega,by go_num,GH,EE⟩
   case measure=>simp [intOf]; omega
  have hlt2:¬ (k:Int) < (F:Int):=by omega
  go_wp2_with fail
  clear hlt2 hlt hk;obtain ⟨wo,hwo⟩:∃ wo,wo=wr:=⟨_,rfl⟩
  subst hwo
  go_loopw [59] (fun i wr=>∃ k:Nat,k≤M∧i=.int .i64 k∧Hid (Kd wb wr)∧Hid (Below w7.heap.size w7 wr)) (fun i _=>M - (intOf i).toNat)
  case atStart=>exact ⟨0,by omega,rfl,ny,rQ⟩
  case round =>
   clear ny rQ;obtain ⟨k,hk,rfl,ny,rQ⟩:=hrel
   by_cases hlt:k < M
   ·obtain ⟨g,cs,rfl,hle,hg,hh⟩:=tu HL.out (by omega)
    obtain ⟨g2,cs2,rfl,hle2,hg2,hh2⟩:=tu HNm.out (by omega);obtain ⟨v,hv⟩:∃ v,(bG qs)[k]?=some v:=⟨_,List.getElem?_eq_getElem (by rw [← Xn.out]; exact hlt)⟩
    obtain ⟨x,c0⟩:=ny.out.int g (k * 5+1) v.at_ (kC HL.out (k * 5+1) _ ((jf _ k v hv 1 (by omega)).trans rfl));obtain ⟨cs',hh'⟩:=ny.out.blk _ _ _ hh;have f0:=JY hh' (k * 5+1);have hks:=ny.out.setI hh' c0 (-1);have hbs:=rQ.out.setCell (p:=⟨g,k * 5+1,none⟩) hg (.int .i64 (-1));obtain ⟨WX,mr⟩:∃ WX,WX=wr.setCell ⟨g,k * 5+1,none⟩ (.int .i64 (-1)):=⟨_,rfl⟩
    rw [← mr] at hks hbs;obtain ⟨nm,hnm⟩:∃ nm,(fC qs)[k]?=some nm:=⟨_,List.getElem?_eq_getElem (by rw [qj,← Xn.out]; exact hlt)⟩
    obtain ⟨tx,c1⟩:=hks.str g2 k nm (kC HNm.out k _ (by rw [List.getElem?_map,hnm]; rfl));obtain ⟨cs3,hh3⟩:=hks.blk _ _ _ hh2;have f1:=JY hh3 k;have GH:=hid (hks.setS hh3 c1 ⟨#[63]⟩);have EE:=hid (hbs.setCell (p:=⟨g2,k,none⟩) hg2 (.string ⟨#[63]⟩));have yA:=hid mr;have r1:(0:Int)≤(k:Int):=by omega
    have r2:(k:Int) < (M:Int):=by omega
    clear hv hh hh' hg hh2 hh3 hg2 hnm hks hbs mr
    go_upto_region 17 with (fail)
    rw [← yA.out]
    go_wp2_with fail
    go_roundw
    case rel=>exact ⟨k+1,by omega,by go_num,GH,EE⟩
    case measure=>simp [intOf]; omega
   have hlt2:¬ (k:Int) < (M:Int):=by omega
   go_wp2_with fail
   clear hlt2 hlt hk;obtain ⟨wo,hwo⟩:∃ wo,wo=wr:=⟨_,rfl⟩
   subst hwo
   go_loopw [72] (fun i wr=>∃ k:Nat,k≤F∧i=.int .i64 k∧Hid (Kd wb wr)∧Hid (Below w7.heap.size w7 wr)) (fun i _=>F - (intOf i).toNat)
   case atStart=>exact ⟨0,by omega,rfl,ny,rQ⟩
   case round =>
    clear ny rQ;obtain ⟨k,hk,rfl,ny,rQ⟩:=hrel
    by_cases hlt:k < F
    ·obtain ⟨g,cs,rfl,hle,hg,hh⟩:=tu HD.out (by omega)
     obtain ⟨y,hy⟩:∃ y,ys[k]?=some y:=⟨_,List.getElem?_eq_getElem (by rw [← tZ.out]; exact hlt)⟩
     have hbr:=yc HD.out k y hy;rw [Nat.zero_add] at hbr;obtain ⟨x,c0⟩:=ny.out.int g (k * 6) _ hbr.1;obtain ⟨cs',hh'⟩:=ny.out.blk _ _ _ hh;have f0:=JY hh' (k * 6);have hks:=ny.out.setI hh' c0 0;have hbs:=rQ.out.setCell (p:=⟨g,k * 6,none⟩) hg (.int .i64 0);obtain ⟨WX,mr⟩:∃ WX,WX=wr.setCell ⟨g,k * 6,none⟩ (.int .i64 0):=⟨_,rfl⟩
     rw [← mr] at hks hbs;have Vm:=Yv.out y (List.mem_of_getElem? hy);unfold UB at Vm;obtain ⟨kn,hkn⟩:∃ a,a=y.h.kn:=⟨_,rfl⟩
     obtain ⟨kp,hkp⟩:∃ a,a=y.h.kp:=⟨_,rfl⟩
     obtain ⟨kc,hkc⟩:∃ a,a=y.h.kc:=⟨_,rfl⟩
     rw [← hkn,← hkp,← hkc] at Vm;obtain ⟨hk6,hkr⟩:=Vm;have Ym:Hid (∀ w',Kd wb w'→w'.cell? ⟨g,k * 6+5,none⟩=some (.slice kp kn kc)):=hid fun w' h=>by
      rw [hkn,hkp,hkc]; exact h.sl _ _ _ _ _ hbr.2.2.2.2.2
     have c5:=Ym.out WX hks;have HKR:=hid hkr;have GH:=hid hks;have EE:=hid hbs;have yA:=hid mr;have r1:(0:Int)≤(k:Int):=by omega
     have r2:(k:Int) < (F:Int):=by omega
     clear hy hbr hh hh' hg hks hbs mr hkn hkp hkc hkr
     go_upto_region 23 with (fail)
     rw [← yA.out];clear c0 f0 yA ny rQ
     go_wp2_with fail
     clear c5;obtain ⟨k1,hk1⟩:∃ k1,k1=k:=⟨_,rfl⟩
     subst hk1
     go_loopw [85] (fun i wr=>∃ k:Nat,k≤kn∧i=.int .i64 k∧Hid (Kd wb wr)∧Hid (Below w7.heap.size w7 wr)) (fun i _=>kn - (intOf i).toNat)
     case atStart=>exact ⟨0,by omega,rfl,GH,EE⟩
     case round =>
      clear GH EE;obtain ⟨k2,hk2,rfl,ny,rQ⟩:=hrel
      by_cases hlt2:k2 < kn
      ·obtain ⟨kb,cs1,rfl,hkc,hkb,hhk,hkids⟩:=HKR.out.resolve_left (by omega)
       obtain ⟨h,hbr,hn6,hnr⟩:=hkids k2 hlt2;obtain ⟨x2,d0⟩:=ny.out.int kb (k2 * 6) _ hbr.1;obtain ⟨cs',hh'⟩:=ny.out.blk _ _ _ hhk;have f0:=JY hh' (k2 * 6);have c5:=Ym.out wr ny.out;have hks:=ny.out.setI hh' d0 0;have hbs:=rQ.out.setCell (p:=⟨kb,k2 * 6,none⟩) hkb (.int .i64 0);obtain ⟨WY,hWY⟩:∃ WX,WX=wr.setCell ⟨kb,k2 * 6,none⟩ (.int .i64 0):=⟨_,rfl⟩
       rw [← hWY] at hks hbs;obtain ⟨nn,hnn⟩:∃ a,a=h.nn:=⟨_,rfl⟩
       obtain ⟨np,Lr⟩:∃ a,a=h.np:=⟨_,rfl⟩
       obtain ⟨nc,hnc⟩:∃ a,a=h.nc:=⟨_,rfl⟩
       rw [← hnn] at hn6;rw [← hnn,← Lr,← hnc] at hnr;have HC4:Hid (∀ w',Kd wb w'→w'.cell? ⟨kb,k2 * 6+4,none⟩=some (.slice np nn nc)):=hid fun w' h'=>by
        rw [hnn,Lr,hnc]; exact h'.sl _ _ _ _ _ hbr.2.2.2.2.1
       have e5:=Ym.out WY hks;have e4:=HC4.out WY hks;have HNR:=hid hnr;have GH:=hid hks;have EE:=hid hbs;have HWY:=hid hWY;have s1:(0:Int)≤(k2:Int):=by omega
       have s2:(k2:Int) < (kn:Int):=by omega
       clear hbr hhk hh' hkb hks hbs hWY hnn Lr hnc hnr hkids
       go_upto_region 27 with (fail)
       rw [← HWY.out];clear d0 f0 c5 HWY ny rQ
       go_wp2_with fail
       clear e5 e4
       go_loopw [106] (fun i wr=>∃ k:Nat,k≤nn∧i=.int .i64 k∧Hid (Kd wb wr)∧Hid (Below w7.heap.size w7 wr)) (fun i _=>nn - (intOf i).toNat)
       case atStart=>exact ⟨0,by omega,rfl,GH,EE⟩
       case round =>
        clear GH EE;obtain ⟨k3,hk3,rfl,ny,rQ⟩:=hrel
        by_cases hlt3:k3 < nn
        ·obtain ⟨nb,cs4,rfl,hnc,hnb,hhn,Xp⟩:=HNR.out.resolve_left (by omega)
         obtain ⟨x3,hx3⟩:=Xp k3 hlt3;obtain ⟨x4,d0⟩:=ny.out.int nb k3 _ hx3;obtain ⟨cs',hh'⟩:=ny.out.blk _ _ _ hhn;have f0:=JY hh' k3;have c5:=Ym.out wr ny.out;have c4:=HC4.out wr ny.out;have GH:=hid (ny.out.setI hh' d0 (-7));have EE:=hid (rQ.out.setCell (p:=⟨nb,k3,none⟩) hnb (.int .i64 (-7)));have q1:(0:Int)≤(k3:Int):=by omega
         have q2:(k3:Int) < (nn:Int):=by omega
         clear hx3 hh' hhn hnb Xp
         go_wp2_with fail
         go_roundw
         case rel=>exact ⟨k3+1,by omega,by go_num,GH,EE⟩
         case measure=>simp [intOf]; omega
        have hlt4:¬ (k3:Int) < (nn:Int):=by omega
        go_wp2_with fail
        go_roundw
        case rel=>exact ⟨k2+1,by omega,by go_num,ny,rQ⟩
        case measure=>simp [intOf]; omega
      have hlt3:¬ (k2:Int) < (kn:Int):=by omega
      go_wp2_with fail
      go_roundw
      case rel=>exact ⟨k1+1,by omega,by go_num,ny,rQ⟩
      case measure=>simp [intOf]; omega
    have hlt2:¬ (k:Int) < (F:Int):=by omega
    obtain ⟨z0,z1,z2⟩:=HZ.out wr rQ.out;have heq:=SG;have H1:=hid (VH.out wr rQ.out)
    go_wp2_with fail
    clear z0 z1 z2 heq;refine H1.out.mono ?_
    rintro e v1 ⟨a1,d1,rfl,hr1,hv1⟩;have U9:=hid (rQ.out.trans (hv1.mono rQ.out.size));have HW1:=hid (TI.out.trans (U9.out.mono TI.out.size));have H2:=hid (CP fs a1 p F d1 n c v1 (ww hr1 HFe.out) (FIn.step HI.out HW1.out) (by omega));clear hr1 hv1 H1
    go_wp2_with fail
    refine H2.out.mono ?_
    rintro e v2 ⟨rfl,dd,hv2⟩;have Tq:Hid (Below w7.heap.size w7 v2):=hid (by rw [hv2]; exact below_drewN U9.out dd);have H3:=hid (HCD.out v2 Tq.out);clear hv2 H2 U9 HW1
    go_wp2_with fail
    refine H3.out.mono ?_
    rintro e v3 ⟨a3,d3,y3,rfl,hr3,hl3,hf3,hn3,hv3⟩;have Yn:=hid (Tq.out.trans (hv3.mono Tq.out.size));have H4:=hid (O0.out v3 Yn.out);have HR3:=hid hr3;have Ry:=hid hl3;have HF3:=hid hf3;have Tn:=hid hn3;clear hr3 hl3 hf3 hn3 hv3 H3 Tq
    go_wp2_with fail
    refine H4.out.mono ?_
    rintro e v4 ⟨a4,d4,y4,rfl,hr4,hl4,hf4,hn4,hv4⟩;have VE:=hid (Yn.out.trans (hv4.mono Yn.out.size));have H5:=hid (D8 y3 y4 a3 a4 F d3 F d4 v4 (yS (row_step HR3.out hv4) Ry.out) (yS hr4 hl4) (fun y hy=>⟨(HF3.out y hy).1.step _ hv4,(HF3.out y hy).2.1⟩) (fun y hy=>(hf4 y hy).1) (Ci (Tn.out.trans hn4.symm)) (by omega));clear hr4 hl4 hf4 hn4 hv4 H4 Yn HR3 Ry HF3 Tn
    go_wp2_with fail
    refine H5.out.mono ?_
    rintro e v5 ⟨rfl,hv5⟩;have HV5:=hid (VE.out.trans (hv5.mono VE.out.size));have H6:=hid (HCO.out v5 HV5.out);clear hv5 H5 VE
    go_wp2_with fail
    refine H6.out.mono ?_
    rintro e v6 ⟨a6,d6,rfl,AQ,hv6⟩;have AU:=hid (HV5.out.trans (hv6.mono HV5.out.size));have H7:=hid (HDO.out v6 AU.out);have qL:=hid AQ;clear AQ hv6 H6 HV5
    go_wp2_with fail
    refine H7.out.mono ?_
    rintro e v7 ⟨a7,d7,rfl,Va,hv7⟩;have HV7:=hid (AU.out.trans (hv7.mono AU.out.size));have H8:=hid (FI (bG qs) a6 a7 M d6 M d7 v7 (GR (row_step qL.out hv7) Xn.out) (GR Va Xn.out) (by omega));clear Va hv7 H7 AU qL
    go_wp2_with fail
    refine H8.out.mono ?_
    rintro e v8 ⟨rfl,dd8,hv8⟩;have Yo:Hid (Below w7.heap.size w7 v8):=hid (by rw [hv8]; exact below_drewN HV7.out dd8);have H9:=hid (HCN.out v8 Yo.out);clear hv8 H8 HV7
    go_wp2_with fail
    refine H9.out.mono ?_
    rintro e v9 ⟨a9,d9,rfl,hr9,hv9⟩;have Yp:=hid (Yo.out.trans (hv9.mono Yo.out.size));have H10:=hid (HDN.out v9 Yp.out);have EC:=hid hr9;clear hr9 hv9 H9 Yo
    go_wp2_with fail
    refine H10.out.mono ?_
    rintro e va ⟨aa,da,rfl,hra,hva⟩;have HVa:=hid (Yp.out.trans (hva.mono Yp.out.size));have Yb:Hid (M=(fC qs).length):=hid (by rw [qj]; exact Xn.out);have H11:=hid (uV (fC qs) a9 aa M d9 M da va (NZ (row_step EC.out hva) Yb.out) (NZ hra Yb.out) (by omega));clear hra hva H10 Yp EC
    go_wp2_with fail
    refine H11.out.mono ?_
    rintro e vb ⟨rfl,ddb,hvb⟩;have HVb:Hid (Below W.heap.size W vb):=hid (by rw [hvb]; exact below_drewN (TI.out.trans (HVa.out.mono TI.out.size)) ddb);have H12:=hid (HA.out vb (HK.out.step HVb.out));clear hvb H11 HVa
    go_wp2_with fail
    refine H12.out.mono ?_
    rintro e vc ⟨rfl,hvc⟩;have HVc:=hid (HVb.out.trans (hvc.mono HVb.out.size));clear hvc H12
    go_wp2_with fail
    go_ret
    exact ⟨rfl,HVc.out⟩
theorem Gj (p:Option Addr) (n c:Nat) (fs:List bn) (w:World) (hn:n≤9223372036854775807) (h:FIn w p n c fs) (hk:Kw w) :
  Calls prog 12 #[.slice p n c] w fun e w'=>e=.returned (.bool true)∧Below w.heap.size w w':=IQ fs p n c w hn h hk
end Go.Proofs.YtmpmfamiegpmgaaGreatDoor
