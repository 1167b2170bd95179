/-
  The reader's bareSig.; The reader's sig: what lies within one part.; The reader's bareStr.; The reader's str: what lies within one part.; Every part is read as the plain parser says.
-/
import Derived.Test.YtmpmfamiegpmgaaGreatDoorGM
import Derived.Test.YtmpmfamiegpmgaaGreatDoorGI
import Derived.Test.YtmpmfamiegpmgaaGreatDoorGN
import Derived.Test.YtmpmfamiegpmgaaGreatDoorGO
import Derived.Test.YtmpmfamiegpmgaaGreatDoorGP
import Derived.Test.YtmpmfamiegpmgaaGreatDoorGQ
namespace Go.Proofs.YtmpmfamiegpmgaaGreatDoor
open Tryz
open Go.Lib (cell_of_heap hid)
open Go.RowKit
set_option maxRecDepth 20000
set_option linter.unusedVariables false
set_option linter.unusedSimpArgs false
set_option maxHeartbeats 4000000 in
theorem Bo (S:Src) (F:Nat) (rec:Nt→Nat→Nat→Out Pb) (d:Nat) (hs:Said S rec d) (jo:F≤1000000000) (n:Nat) (w:World) (h:Rd w S n d) (aG:fC S F rec d n≠.dry) :
  Calls prog 283 #[.pointer (some ⟨S.g,0,none⟩)] w fun e w'=>Ends S d w (fC S F rec d n) (RB w) e w':=by
 have hgl:=h.lt;have aW:=h.row;have hbd:=h.bound;have ST0:=hid (St.init h [] ((by simp)));have HS:=hid hs;obtain ⟨tot,htot⟩:∃ tot,tot=fC S F rec d n:=⟨_,rfl⟩
 have HD:Hid (tot≠.dry):=hid (by rw [htot]; exact aG);rw [← htot];unfold fC at htot;have EQ0:=hid htot;clear h aG htot hs
 cases hsig:S.is n [115,105,103]
 ·have e2:=EQ0.out
  simp only [hsig,cond_false] at e2;have EQ2:=hid e2;clear e2 EQ0
  go_enter func283,ntmps283
  have q2:=ST0.out.rd.c2;have HP:=hid (aC S (n) d ⟨#[115,105,103]⟩ _ ST0.out.rd (by simp));simp only [hsig,cond_true,cond_false] at HP
  go_wp2_with fail
  refine HP.out.mono ?_
  rintro e w3 ⟨rfl,hr,hg⟩;have ST4:=hid (ST0.out.grow hr hg);clear hr hg ST0 HP;clear q2;have HC:=hid (take1 S ((n)) d 7 (by decide) _ ST4.out.rd)
  go_wp2_with fail
  refine HC.out.mono ?_
  rintro e w5 (⟨x5,n5,v5,hpo,rfl,hv,hr,hg⟩ | ⟨ch,ho,rfl,hg⟩)
  rotate_left
  ·exact ⟨rfl,Or.inr ⟨ch,by rw [EQ2.out]; exact ai (ho),rfl,ST4.out.pan hg⟩⟩
  have e6:=EQ2.out;rw [show _=Out.ok _ _ from hpo,bind_ok] at e6;have EQ6:=hid e6;clear e6 EQ2;obtain rfl:v5=.int .i64 (x5:Int):=hv;have ST7:=hid (ST4.out.grow hr hg);clear hr hg ST4 hpo HC;have ST8:Hid (St S _ d _ (w5.alloc (.cells #[.int .i64 (x5:Int)] 3)) _):=hid (ST7.out.newN [x5] (by simp));have HB:=hid (az S (n5) d 20 (n:Nat) (some ⟨w5.heap.size,0,none⟩) 1 1 none 0 0 _ ST8.out.rd)
  go_wp2_with fail
  refine HB.out.mono ?_
  rintro e w9 ⟨rfl,hb⟩;have ST10:=hid (ST8.out.below hb);clear hb ST8 HB;have FIN:=hid (ST10.out.fin (k:=20) (m:=0) (f:=n) hgl aW (ST10.out.ns (.slice (some ⟨w5.heap.size,0,none⟩) 1 1,[x5]) (by simp)) St.noK EQ6.out);clear ST10 EQ6;obtain ⟨c0,c1,c2,c3,c4,c5,f0,f1,f2,f3,f4,f5⟩:=FIN.out.al
  go_wp2_with fail
  obtain ⟨_,_,_,_,_,_,_,d0,d1,d2,d3,d4,d5,hfin⟩:=FIN.out;refine bodyPost_ret (by simp [results,results283,go_sem,d0,d1,d2,d3,d4,d5,Result.andThen]; try rfl) rfl ?_
  exact hfin
 ·have e2:=EQ0.out
  simp only [hsig,cond_true] at e2;have EQ2:=hid e2;clear e2 EQ0
  go_enter func283,ntmps283
  have q2:=ST0.out.rd.c2;have HP:=hid (aC S (n) d ⟨#[115,105,103]⟩ _ ST0.out.rd (by simp));simp only [hsig,cond_true,cond_false] at HP
  go_wp2_with fail
  refine HP.out.mono ?_
  rintro e w3 ⟨rfl,hr,hg⟩;have ST4:=hid (ST0.out.grow hr hg);clear hr hg ST0 HP;clear q2;have ST1:=hid (ST4.out.addK (v:=.slice none 0 0) (ys:=[]) St.noK.1 St.noK.2)
  go_wp2_with fail
  go_loopg [4] F (fun gk v5 wr=>∃ (ys:List Br) (i:Nat) (p5:Option Addr) (cc:Nat),v5=.slice p5 ys.length cc∧ys.length+gk≤F∧Hid (tot=(jf S F rec d gk (ys.map Br.pb) i).bind fun l n1=>Out.ok (node 19 n n1 [] l) n1)∧Hid (St S (w.alloc aH) d ⟨[],[],[],[(.slice p5 ys.length cc,ys)]⟩ wr i))
  case atStart=>exact ⟨[],n+1,_,_,rfl,by simp,EQ2,ST1⟩
  case round =>
   obtain ⟨ys,i,p5,cc,rfl,hal,HL,STr⟩:=hrel
   cases gk with
   | zero=>exact absurd HL.out (by intro e; exact HD.out e)
   | succ gk =>
   have hls:=HL.out;simp only [jf] at hls;have EQr:=hid hls;clear hls HL
   cases hend:S.is i [101,110,100]
   ·have e5:=EQr.out
    simp only [hend,cond_false] at e5;have EQ5:=hid e5;clear e5 EQr
    cases o7:S.is i [59]
    ·have e6:=EQ5.out
     simp only [o7,cond_false] at e6;have EQ6:=hid e6;clear e6 EQ5;have HP:=hid (aC S (i) d ⟨#[101,110,100]⟩ _ STr.out.rd (by simp));simp only [hend,cond_true,cond_false] at HP
     go_wp2_with fail
     refine HP.out.mono ?_
     rintro e w7 ⟨rfl,hr,hg⟩;have ST8:=hid (STr.out.grow hr hg);clear hr hg STr HP;have HP:=hid (aC S (i) d ⟨#[59]⟩ _ ST8.out.rd (by simp));simp only [o7,cond_true,cond_false] at HP
     go_wp2_with fail
     refine HP.out.mono ?_
     rintro e w9 ⟨rfl,hr,hg⟩;have ST10:=hid (ST8.out.grow hr hg);clear hr hg ST8 HP;have HC:=hid (Nz S F rec d HS.out jo ((i)) _ ST10.out.rd (aA (aA (by rw [← EQ6.out]; exact HD.out))))
     go_wp2_with fail
     refine HC.out.mono ?_
     rintro e w11 (⟨x11,n11,v11,hpo,rfl,⟨y11,hv,hyl,hyo,rfl⟩,hr,hg⟩ | ⟨ch,ho,rfl,hg⟩)
     rotate_left
     ·exact ⟨rfl,Or.inr ⟨ch,by rw [EQ6.out]; exact ai (ai (ho)),rfl,ST10.out.pan hg⟩⟩
     have e12:=EQ6.out;rw [show _=Out.ok _ _ from hpo,bind_ok] at e12;have EQ12:=hid e12;clear e12 EQ6;have jV:=hid (And.intro hyl (hyo.mono (fun q hq=>Nat.le_trans ST10.out.size hq) _));simp only [Hd.val] at hv;subst hv;have DZ:=hid (And.intro hyl (iD (ST10.out.ks (.slice p5 ys.length cc,ys) (by simp)).1 ST10.out.size hyo));have ST13:=hid (ST10.out.grow hr hg);clear hr hg ST10 hyl hyo hpo HC;have HZ:Hid (∀ z ∈ [y11],z.Lies (w11.alloc (BC y11.h))∧z.On (fun q=>(w.alloc aH).heap.size≤q∧some q≠(.slice p5 ys.length cc:Value).ownBlock)):=hid (List.forall_mem_cons.2 ⟨And.intro (DZ.out.1.step _ ((Below.refl w11.heap.size w11).alloc (Nat.le_refl _) (BC y11.h))) DZ.out.2,(fun _ h=>nomatch h)⟩);have STa:=hid (ST13.out.below ((Below.refl w11.heap.size w11).alloc (Nat.le_refl _) (BC y11.h)));clear ST13 jV DZ
     go_wp2_with (at_builtin; refine dY rfl _ _ rfl STa (.slice p5 ys.length cc) ys [y11] (by simp) ys.length 1 1 rfl rfl ⟨w11.heap.size,0,none⟩ rfl rfl jA HZ.out (by omega) (by omega) ?_)
     intro g14 cp14 w14 ST14;clear HZ STa
     go_wp2_with fail
     go_roundg gk
     case measure=>omega
     case rel=>exact ⟨ys++[y11],n11,_,_,by rw [List.length_append]; rfl,by simp only [List.length_append,List.length_cons,List.length_nil]; omega,hid (by have e:=EQ12.out; simpa using e),hid (by have e:=ST14.out; rw [show (ys++[y11]).length=ys.length+1 by simp]; exact e)⟩
    ·have e6:=EQ5.out
     simp only [o7,cond_true] at e6;have EQ6:=hid e6;clear e6 EQ5;have HP:=hid (aC S (i) d ⟨#[101,110,100]⟩ _ STr.out.rd (by simp));simp only [hend,cond_true,cond_false] at HP
     go_wp2_with fail
     refine HP.out.mono ?_
     rintro e w7 ⟨rfl,hr,hg⟩;have ST8:=hid (STr.out.grow hr hg);clear hr hg STr HP;have HP:=hid (aC S (i) d ⟨#[59]⟩ _ ST8.out.rd (by simp));simp only [o7,cond_true,cond_false] at HP
     go_wp2_with fail
     refine HP.out.mono ?_
     rintro e w9 ⟨rfl,hr,hg⟩;have ST10:=hid (ST8.out.grow hr hg);clear hr hg ST8 HP
     go_wp2_with fail
     go_roundg gk
     case measure=>omega
     case rel=>exact ⟨ys,i+1,_,_,rfl,by omega,EQ6,ST10⟩
   ·have e5:=EQr.out
    simp only [hend,cond_true] at e5;have EQ5:=hid e5;clear e5 EQr;have e6:=EQ5.out;simp only [bind_ok] at e6;have EQ6:=hid e6;clear e6 EQ5;have HP:=hid (aC S (i) d ⟨#[101,110,100]⟩ _ STr.out.rd (by simp));simp only [hend,cond_true,cond_false] at HP
    go_wp2_with fail
    refine HP.out.mono ?_
    rintro e w7 ⟨rfl,hr,hg⟩;have ST8:=hid (STr.out.grow hr hg);clear hr hg STr HP;generalize i+1=nn9 at ST8 EQ6;have HB:=hid (az S (nn9) d 19 (n:Nat) none 0 0 p5 ys.length cc _ ST8.out.rd)
    go_wp2_with fail
    refine HB.out.mono ?_
    rintro e w10 ⟨rfl,hb⟩;have ST11:=hid (ST8.out.below hb);clear hb ST8 HB;have FIN:=hid (ST11.out.fin (k:=19) (m:=0) (f:=n) hgl aW St.noN (ST11.out.ks (.slice p5 ys.length cc,ys) (by simp)) EQ6.out);clear ST11 EQ6;obtain ⟨c0,c1,c2,c3,c4,c5,f0,f1,f2,f3,f4,f5⟩:=FIN.out.al
    go_wp2_with fail
    obtain ⟨_,_,_,_,_,_,_,d0,d1,d2,d3,d4,d5,hfin⟩:=FIN.out;refine bodyPost_ret (by simp [results,results283,go_sem,d0,d1,d2,d3,d4,d5,Result.andThen]; try rfl) rfl ?_
    exact hfin
set_option maxHeartbeats 1000000 in
theorem NV (S:Src) (F:Nat) (rec:Nt→Nat→Nat→Out Pb) (d:Nat) (hs:Said S rec d) (jo:F≤1000000000) (bx:Nat) (n:Nat) (w:World) (h:Rd w S n d) (hx0:w.heap[bx]?=some (.cells #[.pointer (some ⟨S.g,0,none⟩)] 143 (0,0))) (hg0:bx≠S.g) (aG:qQ S F rec d n≠.dry) :
  Calls prog 282 #[.int .i64 (n:Int),.pointer (some ⟨bx,0,none⟩)] w fun e w'=>Ends S d w (qQ S F rec d n) (RB w) e w':=by
 have hgl:=h.lt;have aW:=h.row;have hbd:=h.bound;have ST0:=hid (St.init h [(bx,Obj.cells #[.pointer (some ⟨S.g,0,none⟩)] 143 (0,0))] (fun p hp=>by
  obtain rfl:=List.mem_singleton.1 hp;exact ⟨hx0,hg0⟩))
 have HS:=hid hs;obtain ⟨tot,htot⟩:∃ tot,tot=qQ S F rec d n:=⟨_,rfl⟩
 have HD:Hid (tot≠.dry):=hid (by rw [htot]; exact aG);rw [← htot];unfold qQ at htot;have EQ0:=hid htot;clear h aG htot hs hx0 hg0
 go_enter func282,ntmps282
 have qx0:=ST0.out.xc (b:=bx) (v:=.pointer (some ⟨S.g,0,none⟩)) (T:=143) (by simp);have HC:=hid (Bo S F rec d HS.out jo ((n)) _ ST0.out.rd (aA (by rw [← EQ0.out]; exact HD.out)))
 go_wp2_with fail
 refine HC.out.mono ?_
 rintro e w2 (⟨x2,n2,v2,hpo,rfl,⟨y2,hv,hyl,hyo,rfl⟩,hr,hg⟩ | ⟨ch,ho,rfl,hg⟩)
 rotate_left
 ·exact ⟨rfl,Or.inr ⟨ch,by rw [EQ0.out]; exact ai (ho),rfl,ST0.out.pan hg⟩⟩
 have e3:=EQ0.out;rw [show _=Out.ok _ _ from hpo,bind_ok] at e3;have EQ3:=hid e3;clear e3 EQ0;have DW:=hid (And.intro hyl (hyo.mono (fun q hq=>Nat.le_trans ST0.out.size hq) _));simp only [Hd.val] at hv;subst hv;have ST4:=hid (ST0.out.grow hr hg);clear hr hg ST0 hyl hyo hpo HC;clear qx0;have qx0:=ST4.out.xc (b:=bx) (v:=.pointer (some ⟨S.g,0,none⟩)) (T:=143) (by simp);have HA:Hid (Br.On (fun q=>q≠w2.heap.size) y2):=hid (Bh DW.out.1);have hbx:=ST4.out.box DW.out.1 DW.out.2;have hsz:=ST4.out.size;have hlt:=ST4.out.lt;have hn1:¬ S.g=w2.heap.size:=by omega
 have hn2:¬ w2.heap.size=S.g:=by omega
 have hrb:=heap_alloc_new w2 aH;have qq:=cell_of_heap hrb;have r0:=qq 0;have r1:=qq 1;have r2:=qq 2;have r3:=qq 3;have r4:=qq 4;have r5:=qq 5;simp only [List.getElem?_toArray,List.getElem?_cons_zero,List.getElem?_cons_succ,aH] at r0 r1 r2 r3 r4 r5;have fz:∀ i,(w2.alloc aH).frozen? ⟨w2.heap.size,i,none⟩=false:=fun i=>ay hrb i
 have f0:=fz 0;have f1:=fz 1;have f2:=fz 2;have f3:=fz 3;have f4:=fz 4;have f5:=fz 5;have hm0:¬ bx=w2.heap.size:=by have:=ST4.out.xlt (b:=bx) (v:=.pointer (some ⟨S.g,0,none⟩)) (T:=143) (by simp); omega
 have hw0:¬ w2.heap.size=bx:=fun e=>hm0 e.symm
 have qa0:=(ST4.out.below ((Below.refl w2.heap.size w2).alloc (Nat.le_refl _) aH)).xc (b:=bx) (v:=.pointer (some ⟨S.g,0,none⟩)) (T:=143) (by simp);have qb0:=hbx.xc (b:=bx) (v:=.pointer (some ⟨S.g,0,none⟩)) (T:=143) (by simp);have STx:=hid hbx;clear hbx hrb qq fz hsz hlt ST4 qx0 DW
 rename_i K1 hK1 K0 hK0
 show K0 _ _
 refine hK0 _ _ ?_
 refine wpList_step fun K2 hK2=>?_
 rw [if_pos (ag rfl)];unfold Oper.wp;have hrun:∀ a:Act,(execOp a.eval ⟨some 4,.alloc 96,0,"modules.go:37",#[],none⟩).run prog w2=.ok (.value (.pointer (some ⟨w2.heap.size,0,none⟩))) (w2.alloc aH):=fun a=>by
  generalize a.eval=ρ
  simp [go_sem]
  try rfl
 rw [hrun,Oper.upon_value];refine hK2 _ _ ?_
 clear hrun hK2 hK0;simp only [Act.put,List.setIfInBounds_toArray,List.set_cons_zero,List.set_cons_succ] at *;generalize hb5:w2.heap.size=b5 at *;generalize w2.alloc aH=A5 at *;clear hb5;clear hn1 hn2
 go_wp2_with fail
 go_loopg [] F (fun gk wr=>∃ (y:Br) (i:Nat),Hid (tot=jE S rec d n gk y.pb i)∧Hid (St S (w.alloc aH) d ⟨[(bx,Obj.cells #[.pointer (some ⟨S.g,0,none⟩)] 143 (0,0))],[(b5,y)],[],[]⟩ wr i)∧Hid (Br.On (fun q=>q≠b5) y))
 case atStart=>exact ⟨y2,n2,EQ3,STx,HA⟩
 case round =>
  obtain ⟨y,i,HL,STr,XZ⟩:=hrel
  cases gk with
  | zero=>exact absurd HL.out (by intro e; exact HD.out e)
  | succ gk =>
  have hls:=HL.out;simp only [jE] at hls;have EQr:=hid hls;clear hls HL
  cases hw:S.is i [119,104,101,114,101]
  ·have e6:=EQr.out
   simp only [hw,cond_false] at e6;have EQ6:=hid e6;clear e6 EQr;have qx0:=STr.out.xc (b:=bx) (v:=.pointer (some ⟨S.g,0,none⟩)) (T:=143) (by simp);have HP:=hid (aC S (i) d ⟨#[119,104,101,114,101]⟩ _ STr.out.rd (by simp));simp only [hw,cond_true,cond_false] at HP
   go_wp2_with fail
   refine HP.out.mono ?_
   rintro e w7 ⟨rfl,hr,hg⟩;have ST8:=hid (STr.out.grow hr hg);clear hr hg STr HP;clear qx0;have qx0:=ST8.out.xc (b:=bx) (v:=.pointer (some ⟨S.g,0,none⟩)) (T:=143) (by simp);have qq:=cell_of_heap (ST8.out.b (b5,y) (by simp)).1;have l00:=qq 0;have l01:=qq 1;have l02:=qq 2;have l03:=qq 3;have l04:=qq 4;have l05:=qq 5;simp only [List.getElem?_toArray,List.getElem?_cons_zero,List.getElem?_cons_succ] at l00 l01 l02 l03 l04 l05;clear qq;have RF:=hid (ST8.out.b (b5,y) (by simp)).2.2;have FIN:=hid (ST8.out.finY hgl aW RF.out.1 RF.out.2 EQ6.out);clear ST8 EQ6 RF qx0;obtain ⟨c0,c1,c2,c3,c4,c5,f0,f1,f2,f3,f4,f5⟩:=FIN.out.al
   go_wp2_with fail
   obtain ⟨_,_,_,_,_,_,_,d0,d1,d2,d3,d4,d5,hfin⟩:=FIN.out;refine bodyPost_ret (by simp [results,results282,go_sem,d0,d1,d2,d3,d4,d5,Result.andThen]; try rfl) rfl ?_
   exact hfin
  ·have e6:=EQr.out
   simp only [hw,cond_true] at e6;have EQ6:=hid e6;clear e6 EQr;have qx0:=STr.out.xc (b:=bx) (v:=.pointer (some ⟨S.g,0,none⟩)) (T:=143) (by simp);have HP:=hid (aC S (i) d ⟨#[119,104,101,114,101]⟩ _ STr.out.rd (by simp));simp only [hw,cond_true,cond_false] at HP
   go_wp2_with fail
   refine HP.out.mono ?_
   rintro e w7 ⟨rfl,hr,hg⟩;have ST8:=hid (STr.out.grow hr hg);clear hr hg STr HP;clear qx0;have qx0:=ST8.out.xc (b:=bx) (v:=.pointer (some ⟨S.g,0,none⟩)) (T:=143) (by simp);have HC:=hid (bF S ((i+1)) d ⟨#[116,121,112,101]⟩ _ ST8.out.rd (by simp))
   go_wp2_with fail
   refine HC.out.mono ?_
   rintro e w9 (⟨x9,n9,v9,hpo,rfl,hv,hr,hg⟩ | ⟨ch,ho,rfl,hg⟩)
   rotate_left
   ·exact ⟨rfl,Or.inr ⟨ch,by rw [EQ6.out]; exact ai (ho),rfl,ST8.out.pan hg⟩⟩
   have e10:=EQ6.out;rw [show _=Out.ok _ _ from hpo,bind_ok] at e10;have EQ10:=hid e10;clear e10 EQ6;obtain rfl:v9=.tuple #[]:=hv;have ST11:=hid (ST8.out.grow hr hg);clear hr hg ST8 hpo HC;clear qx0;have qx0:=ST11.out.xc (b:=bx) (v:=.pointer (some ⟨S.g,0,none⟩)) (T:=143) (by simp);have HC:=hid (fA S ((n9)) d _ ST11.out.rd (aA (by rw [← EQ10.out]; exact HD.out)))
   go_wp2_with fail
   refine HC.out.mono ?_
   rintro e w12 (⟨x12,n12,v12,hpo,rfl,hv,hr,hg⟩ | ⟨ch,ho,rfl,hg⟩)
   rotate_left
   ·exact ⟨rfl,Or.inr ⟨ch,by rw [EQ10.out]; exact ai (ho),rfl,ST11.out.pan hg⟩⟩
   have e13:=EQ10.out;rw [show _=Out.ok _ _ from hpo,bind_ok] at e13;have EQ13:=hid e13;clear e13 EQ10;have hz:=ST11.out.size;obtain ⟨p12,l12,cp12,rfl⟩:=hv.form;have ho:=own_base hv hz;have ST14:=hid ((ST11.out.grow hr hg).addN ho);clear hr hg ST11 hv ho hz hpo HC;clear qx0;have qx0:=ST14.out.xc (b:=bx) (v:=.pointer (some ⟨S.g,0,none⟩)) (T:=143) (by simp);have HC:=hid (bF S ((n12)) d ⟨#[61]⟩ _ ST14.out.rd (by simp))
   go_wp2_with fail
   refine HC.out.mono ?_
   rintro e w15 (⟨x15,n15,v15,hpo,rfl,hv,hr,hg⟩ | ⟨ch,ho,rfl,hg⟩)
   rotate_left
   ·exact ⟨rfl,Or.inr ⟨ch,by rw [EQ13.out]; exact ai (ho),rfl,ST14.out.pan hg⟩⟩
   have e16:=EQ13.out;rw [show _=Out.ok _ _ from hpo,bind_ok] at e16;have EQ16:=hid e16;clear e16 EQ13;obtain rfl:v15=.tuple #[]:=hv;have ST17:=hid (ST14.out.grow hr hg);clear hr hg ST14 hpo HC;clear qx0;have qx0:=ST17.out.xc (b:=bx) (v:=.pointer (some ⟨S.g,0,none⟩)) (T:=143) (by simp)
   go_wp2_with fail
   refine aY (fun W:World=>W.heap[bx]?=some (.cells #[.pointer (some ⟨S.g,0,none⟩)] 143 (0,0))∧W.heap[b5]?=some (.cells #[.int .i64 y.h.k,.int .i64 y.h.m,.int .i64 y.h.f,.int .i64 y.h.t,.slice y.h.np y.h.nn y.h.nc,.slice y.h.kp y.h.kn y.h.kc] 96 (0,0))) 8 (by kernel_rfl) ?_
   have STd:=hid (ST17.out.below (Below.refl w15.heap.size w15).drew);refine dL (N:=25) [(0,.int .i64 (n:Int)),(1,.pointer (some ⟨bx,0,none⟩)),(3,.pointer (some ⟨w.heap.size,0,none⟩)),(4,.pointer (some ⟨b5,0,none⟩)),(5,.slice p12 l12 cp12)] (Fs.of rfl rfl (by simp [Act.eval])) ?_
   intro a0 ha0 hF;clear ST17 qx0;generalize w15.drew=w18 at *;have hS:(fun W:World=>W.heap[bx]?=some (.cells #[.pointer (some ⟨S.g,0,none⟩)] 143 (0,0))∧W.heap[b5]?=some (.cells #[.int .i64 y.h.k,.int .i64 y.h.m,.int .i64 y.h.f,.int .i64 y.h.t,.slice y.h.np y.h.nn y.h.nc,.slice y.h.kp y.h.kn y.h.kc] 96 (0,0))) w18:=⟨(STd.out.x (bx,Obj.cells #[.pointer (some ⟨S.g,0,none⟩)] 143 (0,0)) (by simp)).1,(STd.out.b (b5,y) (by simp)).1⟩;refine ax 0 [7,8] (oi:=⟨some 16,.load 143 (.tmp 1),143,"modules.go:42",#[],none⟩) (d:=16) (v:=.pointer (some ⟨S.g,0,none⟩)) hF hS rfl rfl (by decide) (by kernel_rfl) (by kernel_rfl) (by kernel_rfl) (by kernel_rfl) (fun _ _ _ h=>h) (fun a' hA=>ag rfl) (fun a' hA w' hw=>by have e1:=hA.get 1 rfl; have ec:∀ v,a'.eval (.const v)=v:=fun _=>rfl; have q0:=cell_of_heap hw.1 0; simp only [List.getElem?_toArray,List.getElem?_cons_zero] at q0; clear hA; generalize a'.eval=ρ at *; simp [go_sem,ec,e1,q0]; try rfl) ?_
   clear hF;intro hF;refine ax 1 [7,8] (oi:=⟨some 17,.move (.tmp 0),3,"modules.go:42",#[],none⟩) (d:=17) (v:=.int .i64 (n:Int)) hF hS rfl rfl (by decide) (by kernel_rfl) (by kernel_rfl) (by kernel_rfl) (by kernel_rfl) (fun _ _ _ h=>h) (fun a' hA=>ag rfl) (aF rfl rfl) ?_
   clear hF;intro hF;refine ax 2 [7,8] (oi:=⟨some 18,.move (.tmp 5),23,"modules.go:42",#[],none⟩) (d:=18) (v:=.slice p12 l12 cp12) hF hS rfl rfl (by decide) (by kernel_rfl) (by kernel_rfl) (by kernel_rfl) (by kernel_rfl) (fun _ _ _ h=>h) (fun a' hA=>ag rfl) (aF rfl rfl) ?_
   clear hF;intro hF;refine ax 3 [6,7,8] (oi:=⟨some 19,.load 96 (.tmp 4),96,"modules.go:42",#[],none⟩) (d:=19) (v:=.agg #[.int .i64 y.h.k,.int .i64 y.h.m,.int .i64 y.h.f,.int .i64 y.h.t,.slice y.h.np y.h.nn y.h.nc,.slice y.h.kp y.h.kn y.h.kc]) hF hS rfl rfl (by decide) (by kernel_rfl) (by kernel_rfl) (by kernel_rfl) (by kernel_rfl) (fun _ _ _ h=>h) (fun a' hA=>ag rfl) (fun a' hA w' hw=>by have e4:=hA.get 4 rfl; have ec:∀ v,a'.eval (.const v)=v:=fun _=>rfl; have qq:=cell_of_heap hw.2; have q0:=qq 0; have q1:=qq 1; have q2:=qq 2; have q3:=qq 3; have q4:=qq 4; have q5:=qq 5; simp only [List.getElem?_toArray,List.getElem?_cons_zero,List.getElem?_cons_succ] at q0 q1 q2 q3 q4 q5; clear qq; clear hA; generalize a'.eval=ρ at *; simp [go_sem,ec,e4,q0,q1,q2,q3,q4,q5]; try rfl) ?_
   clear hF;intro hF;refine ax 4 [5,6,7,8] (oi:=⟨some 20,.load 143 (.tmp 1),143,"modules.go:42",#[],none⟩) (d:=20) (v:=.pointer (some ⟨S.g,0,none⟩)) hF hS rfl rfl (by decide) (by kernel_rfl) (by kernel_rfl) (by kernel_rfl) (by kernel_rfl) (fun _ _ _ h=>h) (fun a' hA=>ag rfl) (fun a' hA w' hw=>by have e1:=hA.get 1 rfl; have ec:∀ v,a'.eval (.const v)=v:=fun _=>rfl; have q0:=cell_of_heap hw.1 0; simp only [List.getElem?_toArray,List.getElem?_cons_zero] at q0; clear hA; generalize a'.eval=ρ at *; simp [go_sem,ec,e1,q0]; try rfl) ?_
   clear hF;intro hF;refine au 5 (by kernel_rfl) ?_
   have HT:=hid (HS.out.ty ((n15)) _ STd.out.rd (aA (by rw [← EQ16.out]; exact HD.out)));refine bK 5 (oi:=⟨some 21,.call ⟨.value (.func 236),#[.tmp 20],#[143]⟩,96,"modules.go:42",#[⟨4,.data⟩],none⟩) (d:=21) (R:=fun e w'=>Ends S d w18 (rec .ty d ((n15))) (RB w18) e w') hF rfl rfl (by decide) (fun a' hA=>ag rfl) (fun a' hA=>by have e20:=hA.get 20 rfl; have ef:∀ f,a'.eval (.func f)=.func (.func f) #[] #[]:=fun _=>rfl; have ec:∀ v,a'.eval (.const v)=v:=fun _=>rfl; clear hA; generalize a'.eval=ρ at *; simp [go_sem,ef,ec,e20]) HT.out (fun w'=>Ends.noOut) ?_ ?_
   ·rintro ch w' (⟨_,_,_,_,h2,_⟩ | ⟨ch',ho,h2,hg⟩)
    ·cases h2
    ·have h2:=Ending.panicked.inj h2
     subst h2;have hq:bodyPost prog f282 (fun e w'=>Ends S d w tot (RB w) e w') (.panic ch) _ w':=⟨hF.2.1,Or.inr ⟨ch,by rw [EQ16.out]; exact ai ho,rfl,STd.out.pan hg⟩⟩;exact hq
   rintro v w19 (⟨x19,n19,v19,hpo,h2,⟨y19,hv,hyl,hyo,rfl⟩,hr,hg⟩ | ⟨_,_,h2,_⟩) hF2
   rotate_left
   ·cases h2
   have h2:=Ending.returned.inj h2;subst h2;have e20:=EQ16.out;rw [show _=Out.ok _ _ from hpo,bind_ok] at e20;have EQ20:=hid e20;clear e20 EQ16 hS;have X0:Hid (Br.On (fun q=>q≠b5) y19):=hid (hyo.mono (fun q hq=>by have:=(Array.getElem?_eq_some_iff.1 (STd.out.b (b5,y) (by simp)).1).1; simp only at this; omega) _);have hv2:v=.agg #[.int .i64 y19.h.k,.int .i64 y19.h.m,.int .i64 y19.h.f,.int .i64 y19.h.t,.slice y19.h.np y19.h.nn y19.h.nc,.slice y19.h.kp y19.h.kn y19.h.kc]:=hv;subst hv2;clear hv hF;have hF:=hF2;clear hF2;have RG:=hid (And.intro hyl (hyo.mono (fun q hq=>Nat.le_trans STd.out.size hq) _));have ST21:=hid (STd.out.grow hr hg);clear hr hg STd hyl hyo hpo HT;have hS:(fun W:World=>W.heap[bx]?=some (.cells #[.pointer (some ⟨S.g,0,none⟩)] 143 (0,0))∧W.heap[b5]?=some (.cells #[.int .i64 y.h.k,.int .i64 y.h.m,.int .i64 y.h.f,.int .i64 y.h.t,.slice y.h.np y.h.nn y.h.nc,.slice y.h.kp y.h.kn y.h.kc] 96 (0,0))) w19:=⟨(ST21.out.x (bx,Obj.cells #[.pointer (some ⟨S.g,0,none⟩)] 143 (0,0)) (by simp)).1,(ST21.out.b (b5,y) (by simp)).1⟩;refine ⟨fun _=>hS,?_⟩
   refine au 6 (by kernel_rfl) ?_
   have hys:∀ u ∈ [y,y19],u.Lies w19∧u.On (fun q=>(w.alloc aH).heap.size≤q):=(List.forall_mem_cons.2 ⟨(ST21.out.b (b5,y) (by simp)).2.2,(List.forall_mem_cons.2 ⟨RG.out,(fun _ h=>nomatch h)⟩)⟩)
   have hnew:St S _ d _ (w19.alloc (.cells #[.int .i64 y.h.k,.int .i64 y.h.m,.int .i64 y.h.f,.int .i64 y.h.t,.slice y.h.np y.h.nn y.h.nc,.slice y.h.kp y.h.kn y.h.kc,.int .i64 y19.h.k,.int .i64 y19.h.m,.int .i64 y19.h.f,.int .i64 y19.h.t,.slice y19.h.np y19.h.nn y19.h.nc,.slice y19.h.kp y19.h.kn y19.h.kc] 96)) _:=ST21.out.newK [y,y19] (by simp) hys;clear hys;have UI:=hid (And.intro (RG.out.1.step _ ((Below.refl w19.heap.size w19).alloc (Nat.le_refl _) (.cells #[.int .i64 y.h.k,.int .i64 y.h.m,.int .i64 y.h.f,.int .i64 y.h.t,.slice y.h.np y.h.nn y.h.nc,.slice y.h.kp y.h.kn y.h.kc,.int .i64 y19.h.k,.int .i64 y19.h.m,.int .i64 y19.h.f,.int .i64 y19.h.t,.slice y19.h.np y19.h.nn y19.h.nc,.slice y19.h.kp y19.h.kn y19.h.kc] 96))) RG.out.2);have hgb:w19.heap.size≠b5:=by have:=(Array.getElem?_eq_some_iff.1 (ST21.out.b (b5,y) (by simp)).1).1; simp only at this; omega
   have STn:=hid hnew;clear hnew hS;refine dw 6 (oi:=⟨some 22,.buildSlice 94 2 #[(0,.tmp 19),(1,.tmp 21)],94,"modules.go:42",#[⟨3,.data⟩,⟨5,.data⟩],none⟩) (d:=22) (v:=.slice (some ⟨w19.heap.size,0,none⟩) 2 2) (w':=w19.alloc (.cells #[.int .i64 y.h.k,.int .i64 y.h.m,.int .i64 y.h.f,.int .i64 y.h.t,.slice y.h.np y.h.nn y.h.nc,.slice y.h.kp y.h.kn y.h.kc,.int .i64 y19.h.k,.int .i64 y19.h.m,.int .i64 y19.h.f,.int .i64 y19.h.t,.slice y19.h.np y19.h.nn y19.h.nc,.slice y19.h.kp y19.h.kn y19.h.kc] 96)) hF rfl rfl (by decide) (fun a' hA=>ag rfl) (fun a' hA=>by have e19:=hA.get 19 rfl; have e21:=hA.get 21 rfl; have ec:∀ v,a'.eval (.const v)=v:=fun _=>rfl; clear hA; generalize a'.eval=ρ at *; simp [go_sem,ec,e19,e21]; try rfl) ?_
   clear hF;intro hF;clear ST21;generalize w19.alloc (.cells #[.int .i64 y.h.k,.int .i64 y.h.m,.int .i64 y.h.f,.int .i64 y.h.t,.slice y.h.np y.h.nn y.h.nc,.slice y.h.kp y.h.kn y.h.kc,.int .i64 y19.h.k,.int .i64 y19.h.m,.int .i64 y19.h.f,.int .i64 y19.h.t,.slice y19.h.np y19.h.nn y19.h.nc,.slice y19.h.kp y19.h.kn y19.h.kc] 96)=w22 at *;generalize QC:w19.heap.size=g22 at *;have ST22:=STn;clear STn;have hS:(fun W:World=>W.heap[bx]?=some (.cells #[.pointer (some ⟨S.g,0,none⟩)] 143 (0,0))∧W.heap[b5]?=some (.cells #[.int .i64 y.h.k,.int .i64 y.h.m,.int .i64 y.h.f,.int .i64 y.h.t,.slice y.h.np y.h.nn y.h.nc,.slice y.h.kp y.h.kn y.h.kc] 96 (0,0))) w22:=⟨(ST22.out.x (bx,Obj.cells #[.pointer (some ⟨S.g,0,none⟩)] 143 (0,0)) (by simp)).1,(ST22.out.b (b5,y) (by simp)).1⟩;refine ⟨fun _=>hS,?_⟩
   refine au 7 (by kernel_rfl) ?_
   have HT:=hid (az S (n19) d 21 (n:Nat) p12 l12 cp12 (some ⟨g22,0,none⟩) 2 2 _ ST22.out.rd);refine bK 7 (oi:=⟨some 23,.call ⟨.value (.func 121),#[.tmp 16,.const (.int .i64 21),.tmp 17,.tmp 18,.tmp 22],#[143,3,3,23,94]⟩,96,"modules.go:42",#[⟨0,.data⟩,⟨1,.data⟩,⟨2,.data⟩,⟨6,.data⟩,⟨5,.chain⟩],none⟩) (d:=23) (R:=fun e w'=>e=.returned (.agg #[.int .i64 21,.int .i64 0,.int .i64 (n:Int),.int .i64 (n19:Int),.slice p12 l12 cp12,.slice (some ⟨g22,0,none⟩) 2 2])∧Below w22.heap.size w22 w') hF rfl rfl (by decide) (fun a' hA=>ag rfl) (fun a' hA=>by have e16:=hA.get 16 rfl; have e17:=hA.get 17 rfl; have e18:=hA.get 18 rfl; have e22:=hA.get 22 rfl; have ef:∀ f,a'.eval (.func f)=.func (.func f) #[] #[]:=fun _=>rfl; have ec:∀ v,a'.eval (.const v)=v:=fun _=>rfl; clear hA; generalize a'.eval=ρ at *; simp [go_sem,ef,ec,e16,e17,e18,e22]) HT.out (by rintro w' ⟨h,_⟩; cases h) ?_ ?_
   ·rintro ch w' ⟨h,_⟩
    cases h
   rintro v w24 ⟨h,hb⟩;have h:=Ending.returned.inj h;subst h;intro hF2;clear hF hS;have hF:=hF2;clear hF2;have ST24:=hid (ST22.out.below hb);clear hb ST22 HT;have hS:(fun W:World=>W.heap[bx]?=some (.cells #[.pointer (some ⟨S.g,0,none⟩)] 143 (0,0))∧W.heap[b5]?=some (.cells #[.int .i64 y.h.k,.int .i64 y.h.m,.int .i64 y.h.f,.int .i64 y.h.t,.slice y.h.np y.h.nn y.h.nc,.slice y.h.kp y.h.kn y.h.kc] 96 (0,0))) w24:=⟨(ST24.out.x (bx,Obj.cells #[.pointer (some ⟨S.g,0,none⟩)] 143 (0,0)) (by simp)).1,(ST24.out.b (b5,y) (by simp)).1⟩;refine ⟨fun _=>hS,?_⟩
   refine au 8 (by kernel_rfl) ?_
   have hz:=ST24.out.node_apart (b:=b5) (y:=y) (by simp) 21 0 (n:Nat) (n19:Nat) (ST24.out.ns (.slice p12 l12 cp12,x12) (by simp)) (ST24.out.ks (.slice (some ⟨g22,0,none⟩) 2 2,[y,y19]) (by simp)) (by omega) (List.forall_mem_cons.2 ⟨XZ.out,(List.forall_mem_cons.2 ⟨X0.out,(fun _ h=>nomatch h)⟩)⟩);have STz:Hid (St S _ d ⟨_,[(b5,(Br.mk ⟨21,0,((n:Nat):Int),((n19:Nat):Int),p12,l12,cp12,List.map (fun x:Nat=>(x:Int)) x12,(some ⟨g22,0,none⟩),2,2⟩ [y,y19]))],[],[]⟩ ((((((w24.setCell ⟨b5,0,none⟩ (.int .i64 21)).setCell ⟨b5,1,none⟩ (.int .i64 0)).setCell ⟨b5,2,none⟩ (.int .i64 (n:Int))).setCell ⟨b5,3,none⟩ (.int .i64 (n19:Int))).setCell ⟨b5,4,none⟩ (.slice p12 l12 cp12)).setCell ⟨b5,5,none⟩ (.slice (some ⟨g22,0,none⟩) 2 2)) _):=hid (ST24.out.rebox (b:=b5) (y:=y) (by simp) hz.1 hz.2);have X3:Hid (Br.On (fun q=>q≠b5) (Br.mk ⟨21,0,((n:Nat):Int),((n19:Nat):Int),p12,l12,cp12,List.map (fun x:Nat=>(x:Int)) x12,(some ⟨g22,0,none⟩),2,2⟩ [y,y19])):=hid (Br.On.mono (Q:=fun q=>q≠b5) (fun q hq=>hq.2) _ hz.2);have hbk:=(ST24.out.b (b5,y) (by simp)).1;have qq:=cell_of_heap hbk;have r0:=qq 0;have r1:=qq 1;have r2:=qq 2;have r3:=qq 3;have r4:=qq 4;have r5:=qq 5;simp only [List.getElem?_toArray,List.getElem?_cons_zero,List.getElem?_cons_succ] at r0 r1 r2 r3 r4 r5;have f0:=ay hbk 0;have f1:=ay hbk 1;have f2:=ay hbk 2;have f3:=ay hbk 3;have f4:=ay hbk 4;have f5:=ay hbk 5
   simp only at f0 f1 f2 f3 f4 f5
   clear hbk qq hz;refine dC 8 (oi:=⟨none,.store 96 (.tmp 4) (.tmp 23),0,"modules.go:42",#[⟨7,.data⟩,⟨7,.chain⟩,⟨0,.phase⟩,⟨1,.phase⟩,⟨2,.phase⟩,⟨3,.phase⟩,⟨4,.phase⟩,⟨5,.phase⟩,⟨6,.phase⟩,⟨7,.phase⟩],none⟩) (w':=((((((w24.setCell ⟨b5,0,none⟩ (.int .i64 21)).setCell ⟨b5,1,none⟩ (.int .i64 0)).setCell ⟨b5,2,none⟩ (.int .i64 (n:Int))).setCell ⟨b5,3,none⟩ (.int .i64 (n19:Int))).setCell ⟨b5,4,none⟩ (.slice p12 l12 cp12)).setCell ⟨b5,5,none⟩ (.slice (some ⟨g22,0,none⟩) 2 2))) hF rfl rfl (fun a' hA=>ag rfl) (fun a' hA=>?_) ?_
   ·have e1:=hA.get 4 rfl
    have e2:=hA.get 23 rfl;clear hA hF;generalize a'.eval=ρ at *
    simp [go_sem,e1,e2,r0,r1,r2,r3,r4,r5,f0,f1,f2,f3,f4,f5]
   refine ⟨fun h=>absurd h (by decide),?_⟩
   refine bu (by kernel_rfl) ?_ _
   subst ha0;simp only [Act.put,List.setIfInBounds_toArray,List.set_cons_zero,List.set_cons_succ];clear hF hS ST24 r0 r1 r2 r3 r4 r5 f0 f1 f2 f3 f4 f5;generalize ((((((w24.setCell ⟨b5,0,none⟩ (.int .i64 21)).setCell ⟨b5,1,none⟩ (.int .i64 0)).setCell ⟨b5,2,none⟩ (.int .i64 (n:Int))).setCell ⟨b5,3,none⟩ (.int .i64 (n19:Int))).setCell ⟨b5,4,none⟩ (.slice p12 l12 cp12)).setCell ⟨b5,5,none⟩ (.slice (some ⟨g22,0,none⟩) 2 2))=wz at *
   go_wp2_with fail
   go_roundg gk
   case measure=>omega
   case rel=>exact ⟨(Br.mk ⟨21,0,((n:Nat):Int),((n19:Nat):Int),p12,l12,cp12,List.map (fun x:Nat=>(x:Int)) x12,(some ⟨g22,0,none⟩),2,2⟩ [y,y19]),n19,EQ20,STz,X3⟩
set_option maxHeartbeats 1000000 in
theorem AO (S:Src) (F:Nat) (rec:Nt→Nat→Nat→Out Pb) (d:Nat) (hs:Said S rec d) (jo:F≤1000000000) (n:Nat) (w:World) (h:Rd w S n d) (aG:fF S F rec d n≠.dry) :
  Calls prog 309 #[.pointer (some ⟨S.g,0,none⟩)] w fun e w'=>Ends S d w (fF S F rec d n) (RB w) e w':=by
 have hgl:=h.lt;have aW:=h.row;have hbd:=h.bound;have ST0:=hid (St.init h [] ((by simp)));have HS:=hid hs;have XX:=hid (fun (e:S.kd n≠0)=>h.moreK e);have XY:=hid (fun (e:n+1 < S.ts.length) (e2:S.is (n+1) [40]=true)=>h.good.more e (by simp) e2);obtain ⟨tot,htot⟩:∃ tot,tot=fF S F rec d n:=⟨_,rfl⟩
 have HD:Hid (tot≠.dry):=hid (by rw [htot]; exact aG);rw [← htot];unfold fF at htot;have EQ0:=hid htot;clear h aG htot hs
 cases hst:S.is n [115,116,114,117,99,116]
 ·have e2:=EQ0.out
  simp only [hst,cond_false] at e2;have EQ2:=hid e2;clear e2 EQ0
  cases h7:S.kd n == 7
  ·have e3:=EQ2.out
   simp only [h7,cond_false] at e3;have EQ3:=hid e3;clear e3 EQ2;have e4:=EQ3.out;simp only [Bool.false_and,cond_false] at e4;have EQ4:=hid e4;clear e4 EQ3
   go_enter func309,ntmps309
   have q2:=ST0.out.rd.c2;have HP:=hid (aC S (n) d ⟨#[115,116,114,117,99,116]⟩ _ ST0.out.rd (by simp));simp only [hst,cond_true,cond_false] at HP
   go_wp2_with fail
   refine HP.out.mono ?_
   rintro e w5 ⟨rfl,hr,hg⟩;have ST6:=hid (ST0.out.grow hr hg);clear hr hg ST0 HP;clear q2;have HP:=hid (bG S (n) d _ ST6.out.rd)
   go_wp2_with fail
   refine HP.out.mono ?_
   rintro e w7 ⟨rfl,hb⟩;have ST8:=hid (ST6.out.below hb);clear hb ST6 HP;have HC:=hid (MQ S ((n)) d 7 (by decide) _ ST8.out.rd (aA (by rw [← EQ4.out]; exact HD.out)))
   go_wp2_with fail
   refine HC.out.mono ?_
   rintro e w9 (⟨x9,n9,v9,hpo,rfl,hv,hr,hg⟩ | ⟨ch,ho,rfl,hg⟩)
   rotate_left
   ·exact ⟨rfl,Or.inr ⟨ch,by rw [EQ4.out]; exact ai (ho),rfl,ST8.out.pan hg⟩⟩
   have e10:=EQ4.out;rw [show _=Out.ok _ _ from hpo,bind_ok] at e10;have EQ10:=hid e10;clear e10 EQ4;have hz:=ST8.out.size;obtain ⟨p9,l9,cp9,rfl⟩:=hv.form;have ho:=own_base hv hz;have ST11:=hid ((ST8.out.grow hr hg).addN ho);clear hr hg ST8 hv ho hz hpo HC;have HB:=hid (az S (n9) d 16 (n:Nat) p9 l9 cp9 none 0 0 _ ST11.out.rd)
   go_wp2_with fail
   refine HB.out.mono ?_
   rintro e w12 ⟨rfl,hb⟩;have ST13:=hid (ST11.out.below hb);clear hb ST11 HB;have FIN:=hid (ST13.out.fin (k:=16) (m:=0) (f:=n) hgl aW (ST13.out.ns (.slice p9 l9 cp9,x9) (by simp)) St.noK EQ10.out);clear ST13 EQ10;obtain ⟨c0,c1,c2,c3,c4,c5,f0,f1,f2,f3,f4,f5⟩:=FIN.out.al
   go_wp2_with fail
   obtain ⟨_,_,_,_,_,_,_,d0,d1,d2,d3,d4,d5,hfin⟩:=FIN.out;refine bodyPost_ret (by simp [results,results309,go_sem,d0,d1,d2,d3,d4,d5,Result.andThen]; try rfl) rfl ?_
   exact hfin
  ·have e3:=EQ2.out
   simp only [h7,cond_true] at e3;have EQ3:=hid e3;clear e3 EQ2;have e4:=EQ3.out;simp only [Bool.true_and] at e4;have EQ4:=hid e4;clear e4 EQ3;have h7e:S.kd n=7:=by simpa using h7
   have hm1:n+1 < S.ts.length:=XX.out (by omega)
   cases hop:S.is (n+1) [40]
   ·have e5:=EQ4.out
    simp only [hop,cond_false] at e5;have EQ5:=hid e5;clear e5 EQ4;have htx:=aI hop
    go_enter func309,ntmps309
    have q2:=ST0.out.rd.c2;have HP:=hid (aC S (n) d ⟨#[115,116,114,117,99,116]⟩ _ ST0.out.rd (by simp));simp only [hst,cond_true,cond_false] at HP
    go_wp2_with fail
    refine HP.out.mono ?_
    rintro e w6 ⟨rfl,hr,hg⟩;have ST7:=hid (ST0.out.grow hr hg);clear hr hg ST0 HP;clear q2;have HP:=hid (bG S (n) d _ ST7.out.rd)
    go_wp2_with fail
    refine HP.out.mono ?_
    rintro e w8 ⟨rfl,hb⟩;have ST9:=hid (ST7.out.below hb);clear hb ST7 HP;have HP:=hid (dF S (n) d (n+1) _ ST9.out.rd hm1);rw [show ((n+1:Nat):Int)=((n:Nat):Int)+1 by omega] at HP
    go_wp2_with fail
    refine HP.out.mono ?_
    rintro e w10 ⟨rfl,hb⟩;have ST11:=hid (ST9.out.below hb);clear hb ST9 HP;have HC:=hid (MQ S ((n)) d 7 (by decide) _ ST11.out.rd (aA (by rw [← EQ5.out]; exact HD.out)))
    go_wp2_with fail
    refine HC.out.mono ?_
    rintro e w12 (⟨x12,n12,v12,hpo,rfl,hv,hr,hg⟩ | ⟨ch,ho,rfl,hg⟩)
    rotate_left
    ·exact ⟨rfl,Or.inr ⟨ch,by rw [EQ5.out]; exact ai (ho),rfl,ST11.out.pan hg⟩⟩
    have e13:=EQ5.out;rw [show _=Out.ok _ _ from hpo,bind_ok] at e13;have EQ13:=hid e13;clear e13 EQ5;have hz:=ST11.out.size;obtain ⟨p12,l12,cp12,rfl⟩:=hv.form;have ho:=own_base hv hz;have ST14:=hid ((ST11.out.grow hr hg).addN ho);clear hr hg ST11 hv ho hz hpo HC;have HB:=hid (az S (n12) d 16 (n:Nat) p12 l12 cp12 none 0 0 _ ST14.out.rd)
    go_wp2_with fail
    refine HB.out.mono ?_
    rintro e w15 ⟨rfl,hb⟩;have ST16:=hid (ST14.out.below hb);clear hb ST14 HB;have FIN:=hid (ST16.out.fin (k:=16) (m:=0) (f:=n) hgl aW (ST16.out.ns (.slice p12 l12 cp12,x12) (by simp)) St.noK EQ13.out);clear ST16 EQ13;obtain ⟨c0,c1,c2,c3,c4,c5,f0,f1,f2,f3,f4,f5⟩:=FIN.out.al
    go_wp2_with fail
    obtain ⟨_,_,_,_,_,_,_,d0,d1,d2,d3,d4,d5,hfin⟩:=FIN.out;refine bodyPost_ret (by simp [results,results309,go_sem,d0,d1,d2,d3,d4,d5,Result.andThen]; try rfl) rfl ?_
    exact hfin
   ·have e5:=EQ4.out
    simp only [hop,cond_true] at e5;have EQ5:=hid e5;clear e5 EQ4;have htx:=aI hop;have hm2:n+1+1 < S.ts.length:=XY.out hm1 hop
    go_enter func309,ntmps309
    have q2:=ST0.out.rd.c2;have HP:=hid (aC S (n) d ⟨#[115,116,114,117,99,116]⟩ _ ST0.out.rd (by simp));simp only [hst,cond_true,cond_false] at HP
    go_wp2_with fail
    refine HP.out.mono ?_
    rintro e w6 ⟨rfl,hr,hg⟩;have ST7:=hid (ST0.out.grow hr hg);clear hr hg ST0 HP;clear q2;have HP:=hid (bG S (n) d _ ST7.out.rd)
    go_wp2_with fail
    refine HP.out.mono ?_
    rintro e w8 ⟨rfl,hb⟩;have ST9:=hid (ST7.out.below hb);clear hb ST7 HP;have HP:=hid (dF S (n) d (n+1) _ ST9.out.rd hm1);rw [show ((n+1:Nat):Int)=((n:Nat):Int)+1 by omega] at HP
    go_wp2_with fail
    refine HP.out.mono ?_
    rintro e w10 ⟨rfl,hb⟩;have ST11:=hid (ST9.out.below hb);clear hb ST9 HP;have q2:=ST11.out.rd.c2;have fz2:=ST11.out.rd.free 2;have STm:=hid (ST11.out.moved (n+2) hm2 ((n:Int)+2) (by omega));clear ST11;have HC:=hid (HS.out.str ((n+2)) _ STm.out.rd (aA (by rw [← EQ5.out]; exact HD.out)))
    go_wp2_with fail
    refine HC.out.mono ?_
    rintro e w12 (⟨x12,n12,v12,hpo,rfl,⟨y12,hv,hyl,hyo,rfl⟩,hr,hg⟩ | ⟨ch,ho,rfl,hg⟩)
    rotate_left
    ·exact ⟨rfl,Or.inr ⟨ch,by rw [EQ5.out]; exact ai (ho),rfl,STm.out.pan hg⟩⟩
    have e13:=EQ5.out;rw [show _=Out.ok _ _ from hpo,bind_ok] at e13;have EQ13:=hid e13;clear e13 EQ5;have mG:=hid (And.intro hyl (hyo.mono (fun q hq=>Nat.le_trans STm.out.size hq) _));simp only [Hd.val] at hv;subst hv;have ST14:=hid (STm.out.grow hr hg);clear hr hg STm hyl hyo hpo HC;clear q2 fz2;have hbx:=ST14.out.box mG.out.1 mG.out.2;have hsz:=ST14.out.size;have hlt:=ST14.out.lt;have hn1:¬ S.g=w12.heap.size:=by omega
    have hn2:¬ w12.heap.size=S.g:=by omega
    have hrb:=heap_alloc_new w12 aH;have qq:=cell_of_heap hrb;have r0:=qq 0;have r1:=qq 1;have r2:=qq 2;have r3:=qq 3;have r4:=qq 4;have r5:=qq 5;simp only [List.getElem?_toArray,List.getElem?_cons_zero,List.getElem?_cons_succ,aH] at r0 r1 r2 r3 r4 r5;have fz:∀ i,(w12.alloc aH).frozen? ⟨w12.heap.size,i,none⟩=false:=fun i=>ay hrb i
    have f0:=fz 0;have f1:=fz 1;have f2:=fz 2;have f3:=fz 3;have f4:=fz 4;have f5:=fz 5;have STx:=hid hbx;clear hbx hrb qq fz hsz hlt ST14  mG
    rename_i K1 hK1 K0 hK0
    show K0 _ _
    refine hK0 _ _ ?_
    refine wpList_step fun K2 hK2=>?_
    rw [if_pos (ag rfl)];unfold Oper.wp;have hrun:∀ a:Act,(execOp a.eval ⟨some 5,.alloc 96,0,"modules.go:27",#[],none⟩).run prog w12=.ok (.value (.pointer (some ⟨w12.heap.size,0,none⟩))) (w12.alloc aH):=fun a=>by
     generalize a.eval=ρ
     simp [go_sem]
     try rfl
    rw [hrun,Oper.upon_value];refine hK2 _ _ ?_
    clear hrun hK2 hK0;simp only [Act.put,List.setIfInBounds_toArray,List.set_cons_zero,List.set_cons_succ] at *;generalize He:w12.heap.size=b15 at *;generalize w12.alloc aH=A15 at *;clear He;have HC:=hid (bF S ((n12)) d ⟨#[41]⟩ _ STx.out.rd (by simp))
    go_wp2_with fail
    refine HC.out.mono ?_
    rintro e w16 (⟨x16,n16,v16,hpo,rfl,hv,hr,hg⟩ | ⟨ch,ho,rfl,hg⟩)
    rotate_left
    ·exact ⟨rfl,Or.inr ⟨ch,by rw [EQ13.out]; exact ai (ho),rfl,STx.out.pan hg⟩⟩
    have e17:=EQ13.out;rw [show _=Out.ok _ _ from hpo,bind_ok] at e17;have EQ17:=hid e17;clear e17 EQ13;obtain rfl:v16=.tuple #[]:=hv;have ST18:=hid (STx.out.grow hr hg);clear hr hg STx hpo HC;clear r0 r1 r2 r3 r4 r5 f0 f1 f2 f3 f4 f5 hn1 hn2;have ST19:Hid (St S _ d _ (w16.alloc (.cells #[.int .i64 (n:Int)] 3)) _):=hid (ST18.out.newN [n] (by simp));have qq:=cell_of_heap (ST19.out.b (b15,y12) (by simp)).1;have l00:=qq 0;have l01:=qq 1;have l02:=qq 2;have l03:=qq 3;have l04:=qq 4;have l05:=qq 5;simp only [List.getElem?_toArray,List.getElem?_cons_zero,List.getElem?_cons_succ] at l00 l01 l02 l03 l04 l05;clear qq;have Ak:∀ u ∈ [y12],u.Lies (w16.alloc (.cells #[.int .i64 (n:Int)] 3))∧u.On (fun q=>(w.alloc aH).heap.size≤q):=(List.forall_mem_cons.2 ⟨(ST19.out.b (b15,y12) (by simp)).2.2,(fun _ h=>nomatch h)⟩)
    have ST20:Hid (St S _ d _ ((w16.alloc (.cells #[.int .i64 (n:Int)] 3)).alloc (.cells #[.int .i64 y12.h.k,.int .i64 y12.h.m,.int .i64 y12.h.f,.int .i64 y12.h.t,.slice y12.h.np y12.h.nn y12.h.nc,.slice y12.h.kp y12.h.kn y12.h.kc] 96)) _):=hid (ST19.out.newK [y12] (by simp) Ak);clear Ak;rw [show (w16.alloc (.cells #[.int .i64 (n:Int)] 3)).heap.size=w16.heap.size+1 by simp] at ST20;have HB:=hid (az S (n16) d 17 (n:Nat) (some ⟨w16.heap.size,0,none⟩) 1 1 (some ⟨w16.heap.size+1,0,none⟩) 1 1 _ ST20.out.rd)
    go_wp2_with fail
    refine HB.out.mono ?_
    rintro e w21 ⟨rfl,hb⟩;have ST22:=hid (ST20.out.below hb);clear hb ST20 HB;have FIN:=hid (ST22.out.fin (k:=17) (m:=0) (f:=n) hgl aW (ST22.out.ns (.slice (some ⟨w16.heap.size,0,none⟩) 1 1,[n]) (by simp)) (ST22.out.ks (.slice (some ⟨w16.heap.size+1,0,none⟩) 1 1,[y12]) (by simp)) EQ17.out);clear ST22 EQ17;obtain ⟨c0,c1,c2,c3,c4,c5,f0,f1,f2,f3,f4,f5⟩:=FIN.out.al
    go_wp2_with fail
    obtain ⟨_,_,_,_,_,_,_,d0,d1,d2,d3,d4,d5,hfin⟩:=FIN.out;refine bodyPost_ret (by simp [results,results309,go_sem,d0,d1,d2,d3,d4,d5,Result.andThen]; try rfl) rfl ?_
    exact hfin
 ·have e2:=EQ0.out
  simp only [hst,cond_true] at e2;have EQ2:=hid e2;clear e2 EQ0
  go_enter func309,ntmps309
  have q2:=ST0.out.rd.c2;have HP:=hid (aC S (n) d ⟨#[115,116,114,117,99,116]⟩ _ ST0.out.rd (by simp));simp only [hst,cond_true,cond_false] at HP
  go_wp2_with fail
  refine HP.out.mono ?_
  rintro e w3 ⟨rfl,hr,hg⟩;have ST4:=hid (ST0.out.grow hr hg);clear hr hg ST0 HP;clear q2;have HC:=hid (oh S F rec d HS.out jo 1 ((n+1)) _ ST4.out.rd (aA (by rw [← EQ2.out]; exact HD.out)))
  go_wp2_with fail
  refine HC.out.mono ?_
  rintro e w5 (⟨x5,n5,v5,hpo,rfl,⟨y5,hown,kP,rfl⟩,hr,hg⟩ | ⟨ch,ho,rfl,hg⟩)
  rotate_left
  ·exact ⟨rfl,Or.inr ⟨ch,by rw [EQ2.out]; exact ai (ho),rfl,ST4.out.pan hg⟩⟩
  have e6:=EQ2.out;rw [show _=Out.ok _ _ from hpo,bind_ok] at e6;have EQ6:=hid e6;clear e6 EQ2;have hz:=ST4.out.size;have ho:=own_base hown hz;have hkk:=kP.base hz;obtain ⟨p5,cp5,rfl⟩:=dP hown;have ST7:=hid ((ST4.out.grow hr hg).addK ho hkk);clear hr hg ST4 hown kP ho hkk hz hpo HC;have HC:=hid (bF S ((n5)) d ⟨#[101,110,100]⟩ _ ST7.out.rd (by simp))
  go_wp2_with fail
  refine HC.out.mono ?_
  rintro e w8 (⟨x8,n8,v8,hpo,rfl,hv,hr,hg⟩ | ⟨ch,ho,rfl,hg⟩)
  rotate_left
  ·exact ⟨rfl,Or.inr ⟨ch,by rw [EQ6.out]; exact ai (ho),rfl,ST7.out.pan hg⟩⟩
  have e9:=EQ6.out;rw [show _=Out.ok _ _ from hpo,bind_ok] at e9;have EQ9:=hid e9;clear e9 EQ6;obtain rfl:v8=.tuple #[]:=hv;have ST10:=hid (ST7.out.grow hr hg);clear hr hg ST7 hpo HC;have HB:=hid (az S (n8) d 15 (n:Nat) none 0 0 p5 y5.length cp5 _ ST10.out.rd)
  go_wp2_with fail
  refine HB.out.mono ?_
  rintro e w11 ⟨rfl,hb⟩;have ST12:=hid (ST10.out.below hb);clear hb ST10 HB;have FIN:=hid (ST12.out.fin (k:=15) (m:=0) (f:=n) hgl aW St.noN (ST12.out.ks (.slice p5 y5.length cp5,y5) (by simp)) EQ9.out);clear ST12 EQ9;obtain ⟨c0,c1,c2,c3,c4,c5,f0,f1,f2,f3,f4,f5⟩:=FIN.out.al
  go_wp2_with fail
  obtain ⟨_,_,_,_,_,_,_,d0,d1,d2,d3,d4,d5,hfin⟩:=FIN.out;refine bodyPost_ret (by simp [results,results309,go_sem,d0,d1,d2,d3,d4,d5,Result.andThen]; try rfl) rfl ?_
  exact hfin
set_option maxHeartbeats 1000000 in
theorem MC (S:Src) (F:Nat) (rec:Nt→Nat→Nat→Out Pb) (d:Nat) (hs:Said S rec d) (jo:F≤1000000000) (bx:Nat) (n:Nat) (w:World) (h:Rd w S n d) (hx0:w.heap[bx]?=some (.cells #[.pointer (some ⟨S.g,0,none⟩)] 143 (0,0))) (hg0:bx≠S.g) (aG:qN S F rec d n≠.dry) :
  Calls prog 308 #[.int .i64 (n:Int),.pointer (some ⟨bx,0,none⟩)] w fun e w'=>Ends S d w (qN S F rec d n) (RB w) e w':=by
 have hgl:=h.lt;have aW:=h.row;have hbd:=h.bound;have ST0:=hid (St.init h [(bx,Obj.cells #[.pointer (some ⟨S.g,0,none⟩)] 143 (0,0))] (fun p hp=>by
  obtain rfl:=List.mem_singleton.1 hp;exact ⟨hx0,hg0⟩))
 have HS:=hid hs;obtain ⟨tot,htot⟩:∃ tot,tot=qN S F rec d n:=⟨_,rfl⟩
 have HD:Hid (tot≠.dry):=hid (by rw [htot]; exact aG);rw [← htot];unfold qN at htot;have EQ0:=hid htot;clear h aG htot hs hx0 hg0
 go_enter func308,ntmps308
 have qx0:=ST0.out.xc (b:=bx) (v:=.pointer (some ⟨S.g,0,none⟩)) (T:=143) (by simp);have HC:=hid (AO S F rec d HS.out jo ((n)) _ ST0.out.rd (aA (by rw [← EQ0.out]; exact HD.out)))
 go_wp2_with fail
 refine HC.out.mono ?_
 rintro e w2 (⟨x2,n2,v2,hpo,rfl,⟨y2,hv,hyl,hyo,rfl⟩,hr,hg⟩ | ⟨ch,ho,rfl,hg⟩)
 rotate_left
 ·exact ⟨rfl,Or.inr ⟨ch,by rw [EQ0.out]; exact ai (ho),rfl,ST0.out.pan hg⟩⟩
 have e3:=EQ0.out;rw [show _=Out.ok _ _ from hpo,bind_ok] at e3;have EQ3:=hid e3;clear e3 EQ0;have DW:=hid (And.intro hyl (hyo.mono (fun q hq=>Nat.le_trans ST0.out.size hq) _));simp only [Hd.val] at hv;subst hv;have ST4:=hid (ST0.out.grow hr hg);clear hr hg ST0 hyl hyo hpo HC;clear qx0;have qx0:=ST4.out.xc (b:=bx) (v:=.pointer (some ⟨S.g,0,none⟩)) (T:=143) (by simp);have HA:Hid (Br.On (fun q=>q≠w2.heap.size) y2):=hid (Bh DW.out.1);have hbx:=ST4.out.box DW.out.1 DW.out.2;have hsz:=ST4.out.size;have hlt:=ST4.out.lt;have hn1:¬ S.g=w2.heap.size:=by omega
 have hn2:¬ w2.heap.size=S.g:=by omega
 have hrb:=heap_alloc_new w2 aH;have qq:=cell_of_heap hrb;have r0:=qq 0;have r1:=qq 1;have r2:=qq 2;have r3:=qq 3;have r4:=qq 4;have r5:=qq 5;simp only [List.getElem?_toArray,List.getElem?_cons_zero,List.getElem?_cons_succ,aH] at r0 r1 r2 r3 r4 r5;have fz:∀ i,(w2.alloc aH).frozen? ⟨w2.heap.size,i,none⟩=false:=fun i=>ay hrb i
 have f0:=fz 0;have f1:=fz 1;have f2:=fz 2;have f3:=fz 3;have f4:=fz 4;have f5:=fz 5;have hm0:¬ bx=w2.heap.size:=by have:=ST4.out.xlt (b:=bx) (v:=.pointer (some ⟨S.g,0,none⟩)) (T:=143) (by simp); omega
 have hw0:¬ w2.heap.size=bx:=fun e=>hm0 e.symm
 have qa0:=(ST4.out.below ((Below.refl w2.heap.size w2).alloc (Nat.le_refl _) aH)).xc (b:=bx) (v:=.pointer (some ⟨S.g,0,none⟩)) (T:=143) (by simp);have qb0:=hbx.xc (b:=bx) (v:=.pointer (some ⟨S.g,0,none⟩)) (T:=143) (by simp);have STx:=hid hbx;clear hbx hrb qq fz hsz hlt ST4 qx0 DW
 rename_i K1 hK1 K0 hK0
 show K0 _ _
 refine hK0 _ _ ?_
 refine wpList_step fun K2 hK2=>?_
 rw [if_pos (ag rfl)];unfold Oper.wp;have hrun:∀ a:Act,(execOp a.eval ⟨some 4,.alloc 96,0,"modules.go:8",#[],none⟩).run prog w2=.ok (.value (.pointer (some ⟨w2.heap.size,0,none⟩))) (w2.alloc aH):=fun a=>by
  generalize a.eval=ρ
  simp [go_sem]
  try rfl
 rw [hrun,Oper.upon_value];refine hK2 _ _ ?_
 clear hrun hK2 hK0;simp only [Act.put,List.setIfInBounds_toArray,List.set_cons_zero,List.set_cons_succ] at *;generalize hb5:w2.heap.size=b5 at *;generalize w2.alloc aH=A5 at *;clear hb5;have UM:=hid STx.out.rd.here;have G7:=hid (pU S n2 d _ STx.out.rd)
 go_wp2_with fail
 refine G7.out.mono ?_
 rintro e w6 ⟨rfl,hr,hg⟩;have ST7:=hid (STx.out.grow hr hg);clear hr hg STx G7;clear r0 r1 r2 r3 r4 r5 f0 f1 f2 f3 f4 f5 hn1 hn2 hm0 hw0 qa0 qb0
 go_wp2_with fail
 go_loopg [5] F (fun gk v5 wr=>∃ (y:Br) (i mk:Nat),v5=.int .i64 (mk:Int)∧mk=(S.colon i).1∧Hid (tot=nH S rec d n gk y.pb i)∧Hid (St S (w.alloc aH) d ⟨[(bx,Obj.cells #[.pointer (some ⟨S.g,0,none⟩)] 143 (0,0))],[(b5,y)],[],[]⟩ wr (S.colon i).2)∧Hid (Br.On (fun q=>q≠b5) y)∧Hid (i < S.ts.length))
 case atStart=>exact ⟨y2,n2,_,rfl,rfl,EQ3,ST7,HA,hid UM.out⟩
 case round =>
  obtain ⟨y,i,mk,rfl,hmk,HL,STr,XZ,HIr⟩:=hrel;have hcn:=(jQ STr.out.rd.good HIr.out);rw [← hmk] at hcn;have RH:=hcn.2.2.1;have RI:=hcn.2.2.2;clear hcn
  cases gk with
  | zero=>exact absurd HL.out (by intro e; exact HD.out e)
  | succ gk =>
  have hls:=HL.out;simp only [nH] at hls;rw [← hmk] at hls;have EQr:=hid hls;clear hls HL hmk
  cases hm0:mk == 0
  ·have e8:=EQr.out
   simp only [hm0,cond_false] at e8;have EQ8:=hid e8;clear e8 EQr;have hm:mk≠0:=by simpa using hm0
   have DY:=RH hm;rw [DY] at STr;have hmi:((mk:Int) != 0)=true:=by simpa using hm
   have XR:¬ (mk:Int)=0:=by omega
   clear RH RI;have qx0:=STr.out.xc (b:=bx) (v:=.pointer (some ⟨S.g,0,none⟩)) (T:=143) (by simp);have HC:=hid (HS.out.sig ((i+1)) _ STr.out.rd (aA (by rw [← EQ8.out]; exact HD.out)))
   go_wp2_with fail
   refine HC.out.mono ?_
   rintro e w9 (⟨x9,n9,v9,hpo,rfl,⟨y9,hv,hyl,hyo,rfl⟩,hr,hg⟩ | ⟨ch,ho,rfl,hg⟩)
   rotate_left
   ·exact ⟨rfl,Or.inr ⟨ch,by rw [EQ8.out]; exact ai (ho),rfl,STr.out.pan hg⟩⟩
   have hlow:=(Array.getElem?_eq_some_iff.1 (STr.out.b (b5,y) (by simp)).1).1
   simp only at hlow
   have HRs:=hid (Br.On.mono (Q:=fun q=>q≠b5) (fun q hq=>by omega) _ hyo);clear hlow;have e10:=EQ8.out;rw [show _=Out.ok _ _ from hpo,bind_ok] at e10;have EQ10:=hid e10;clear e10 EQ8;have Ah:=hid (And.intro hyl (hyo.mono (fun q hq=>Nat.le_trans STr.out.size hq) _));simp only [Hd.val] at hv;subst hv;have ST11:=hid (STr.out.grow hr hg);clear hr hg STr hyl hyo hpo HC;clear qx0;have qx0:=ST11.out.xc (b:=bx) (v:=.pointer (some ⟨S.g,0,none⟩)) (T:=143) (by simp);have hbx:=ST11.out.box Ah.out.1 Ah.out.2;have hsz:=ST11.out.size;have hlt:=ST11.out.lt;have hn1:¬ S.g=w9.heap.size:=by omega
   have hn2:¬ w9.heap.size=S.g:=by omega
   have hrb:=heap_alloc_new w9 aH;have qq:=cell_of_heap hrb;have r0:=qq 0;have r1:=qq 1;have r2:=qq 2;have r3:=qq 3;have r4:=qq 4;have r5:=qq 5;simp only [List.getElem?_toArray,List.getElem?_cons_zero,List.getElem?_cons_succ,aH] at r0 r1 r2 r3 r4 r5;have fz:∀ i,(w9.alloc aH).frozen? ⟨w9.heap.size,i,none⟩=false:=fun i=>ay hrb i
   have f0:=fz 0;have f1:=fz 1;have f2:=fz 2;have f3:=fz 3;have f4:=fz 4;have f5:=fz 5;have hm0:¬ bx=w9.heap.size:=by have:=ST11.out.xlt (b:=bx) (v:=.pointer (some ⟨S.g,0,none⟩)) (T:=143) (by simp); omega
   have hw0:¬ w9.heap.size=bx:=fun e=>hm0 e.symm
   have qa0:=(ST11.out.below ((Below.refl w9.heap.size w9).alloc (Nat.le_refl _) aH)).xc (b:=bx) (v:=.pointer (some ⟨S.g,0,none⟩)) (T:=143) (by simp);have qb0:=hbx.xc (b:=bx) (v:=.pointer (some ⟨S.g,0,none⟩)) (T:=143) (by simp);have UN:¬ b5=w9.heap.size:=by have:=(Array.getElem?_eq_some_iff.1 (ST11.out.b (b5,y) (by simp)).1).1; simp only at this; omega
   have X4:¬ w9.heap.size=b5:=fun e=>UN e.symm
   have qk0:=cell_of_heap ((ST11.out.below ((Below.refl w9.heap.size w9).alloc (Nat.le_refl _) aH)).b (b5,y) (by simp)).1;have k00:=qk0 0;have k01:=qk0 1;have k02:=qk0 2;have k03:=qk0 3;have k04:=qk0 4;have k05:=qk0 5;simp only [List.getElem?_toArray,List.getElem?_cons_zero,List.getElem?_cons_succ] at k00 k01 k02 k03 k04 k05;clear qk0;have STx:=hid hbx;clear hbx hrb qq fz hsz hlt ST11 qx0 Ah
   rename_i K1 hK1 K0 hK0
   show K0 _ _
   refine hK0 _ _ ?_
   refine wpList_step fun K2 hK2=>?_
   rw [if_pos (ag rfl)];unfold Oper.wp;have hrun:∀ a:Act,(execOp a.eval ⟨some 6,.alloc 96,0,"modules.go:10",#[],none⟩).run prog w9=.ok (.value (.pointer (some ⟨w9.heap.size,0,none⟩))) (w9.alloc aH):=fun a=>by
    generalize a.eval=ρ
    simp [go_sem]
    try rfl
   rw [hrun,Oper.upon_value];refine hK2 _ _ ?_
   clear hrun hK2 hK0;simp only [Act.put,List.setIfInBounds_toArray,List.set_cons_zero,List.set_cons_succ] at *;generalize Rx:w9.heap.size=b12 at *;generalize w9.alloc aH=A12 at *;clear Rx;have HIn:=hid STx.out.rd.here;have hgb:A12.heap.size≠b5:=by have:=(Array.getElem?_eq_some_iff.1 (STx.out.b (b5,y) (by simp)).1).1; simp at this; omega
   have QF:∀ u ∈ [y,y9],u.Lies (wQ A12 b12 y9.h)∧u.On (fun q=>(w.alloc aH).heap.size≤q):=(List.forall_mem_cons.2 ⟨(STx.out.b (b5,y) (by simp)).2.2,(List.forall_mem_cons.2 ⟨(STx.out.b (b12,y9) (by simp)).2.2,(fun _ h=>nomatch h)⟩)⟩)
   have ST13:Hid (St S _ d _ ((wQ A12 b12 y9.h).alloc (.cells #[.int .i64 y.h.k,.int .i64 y.h.m,.int .i64 y.h.f,.int .i64 y.h.t,.slice y.h.np y.h.nn y.h.nc,.slice y.h.kp y.h.kn y.h.kc,.int .i64 y9.h.k,.int .i64 y9.h.m,.int .i64 y9.h.f,.int .i64 y9.h.t,.slice y9.h.np y9.h.nn y9.h.nc,.slice y9.h.kp y9.h.kn y9.h.kc] 96)) _):=hid (STx.out.newK [y,y9] (by simp) QF);clear QF;rw [show (wQ A12 b12 y9.h).heap.size=A12.heap.size by simp] at ST13;have HB:=hid (az S (n9) d 18 (n:Nat) none 0 0 (some ⟨A12.heap.size,0,none⟩) 2 2 _ ST13.out.rd)
   go_wp2_with fail
   refine HB.out.mono ?_
   rintro e w14 ⟨rfl,hb⟩;have ST15:=hid (ST13.out.below hb);clear hb ST13 HB;clear r0 r1 r2 r3 r4 r5 f0 f1 f2 f3 f4 f5 hn1 hn2 hm0 hw0 qa0 qb0 UN X4 k00 k01 k02 k03 k04 k05;have qx0:=ST15.out.xc (b:=bx) (v:=.pointer (some ⟨S.g,0,none⟩)) (T:=143) (by simp);have HB:=hid (nU (mk:Int) 18 0 (n:Nat) (n9:Nat) none 0 0 (some ⟨A12.heap.size,0,none⟩) 2 2 w14)
   go_wp2_with fail
   refine HB.out.mono ?_
   rintro e w16 ⟨rfl,hb⟩;have ST17:=hid (ST15.out.below hb);clear hb ST15 HB;clear qx0;have qx0:=ST17.out.xc (b:=bx) (v:=.pointer (some ⟨S.g,0,none⟩)) (T:=143) (by simp);have hz:=ST17.out.node_apart (b:=b5) (y:=y) (by simp) 18 (mk:Int) (n:Nat) (n9:Nat) St.noN (ST17.out.ks (.slice (some ⟨A12.heap.size,0,none⟩) 2 2,[y,y9]) (by simp)) (by omega) (List.forall_mem_cons.2 ⟨XZ.out,(List.forall_mem_cons.2 ⟨HRs.out,(fun _ h=>nomatch h)⟩)⟩);have STz:Hid (St S _ d ⟨_,[(b5,(Br.mk ⟨18,(mk:Int),((n:Nat):Int),((n9:Nat):Int),none,0,0,List.map (fun x:Nat=>(x:Int)) [],(some ⟨A12.heap.size,0,none⟩),2,2⟩ [y,y9]))],[],[]⟩ ((((((w16.setCell ⟨b5,0,none⟩ (.int .i64 18)).setCell ⟨b5,1,none⟩ (.int .i64 (mk:Int))).setCell ⟨b5,2,none⟩ (.int .i64 (n:Int))).setCell ⟨b5,3,none⟩ (.int .i64 (n9:Int))).setCell ⟨b5,4,none⟩ (.slice none 0 0)).setCell ⟨b5,5,none⟩ (.slice (some ⟨A12.heap.size,0,none⟩) 2 2)) _):=hid (ST17.out.rebox (b:=b5) (y:=y) (by simp) hz.1 hz.2);have X3:Hid (Br.On (fun q=>q≠b5) (Br.mk ⟨18,(mk:Int),((n:Nat):Int),((n9:Nat):Int),none,0,0,List.map (fun x:Nat=>(x:Int)) [],(some ⟨A12.heap.size,0,none⟩),2,2⟩ [y,y9])):=hid (Br.On.mono (Q:=fun q=>q≠b5) (fun q hq=>hq.2) _ hz.2);have hbk:=(ST17.out.b (b5,y) (by simp)).1;have qq:=cell_of_heap hbk;have r0:=qq 0;have r1:=qq 1;have r2:=qq 2;have r3:=qq 3;have r4:=qq 4;have r5:=qq 5;simp only [List.getElem?_toArray,List.getElem?_cons_zero,List.getElem?_cons_succ] at r0 r1 r2 r3 r4 r5;have f0:=ay hbk 0;have f1:=ay hbk 1;have f2:=ay hbk 2;have f3:=ay hbk 3;have f4:=ay hbk 4;have f5:=ay hbk 5
   simp only at f0 f1 f2 f3 f4 f5
   clear hbk qq hz;have hmx:¬ bx=b5:=by
    have h1:=(ST17.out.x (bx,Obj.cells #[.pointer (some ⟨S.g,0,none⟩)] 143 (0,0)) (by simp)).2.1;have h2:=(ST17.out.b (b5,y) (by simp)).2.1
    simp only at h1 h2
    omega
   have hmy:¬ b5=bx:=fun e=>hmx e.symm
   have qz:=STz.out.xc (b:=bx) (v:=.pointer (some ⟨S.g,0,none⟩)) (T:=143) (by simp);have G7:=hid (pU S n9 d _ STz.out.rd);clear ST17
   go_wp2_with fail
   refine G7.out.mono ?_
   rintro e w18 ⟨rfl,hr,hg⟩;have STe:=hid (STz.out.grow hr hg);clear hr hg STz G7
   go_wp2_with fail
   go_roundg gk
   case measure=>omega
   case rel=>exact ⟨(Br.mk ⟨18,(mk:Int),((n:Nat):Int),((n9:Nat):Int),none,0,0,List.map (fun x:Nat=>(x:Int)) [],(some ⟨A12.heap.size,0,none⟩),2,2⟩ [y,y9]),n9,_,rfl,rfl,EQ10,STe,X3,HIn⟩
  ·have e8:=EQr.out
   simp only [hm0,cond_true] at e8;have EQ8:=hid e8;clear e8 EQr;have hm:mk=0:=by simpa using hm0
   subst hm;have DY:=RI rfl;rw [DY] at STr;clear RH RI;have qq:=cell_of_heap (STr.out.b (b5,y) (by simp)).1;have l00:=qq 0;have l01:=qq 1;have l02:=qq 2;have l03:=qq 3;have l04:=qq 4;have l05:=qq 5;simp only [List.getElem?_toArray,List.getElem?_cons_zero,List.getElem?_cons_succ] at l00 l01 l02 l03 l04 l05;clear qq;have RF:=hid (STr.out.b (b5,y) (by simp)).2.2;have FIN:=hid (STr.out.finY hgl aW RF.out.1 RF.out.2 EQ8.out);clear STr EQ8 RF;obtain ⟨c0,c1,c2,c3,c4,c5,f0,f1,f2,f3,f4,f5⟩:=FIN.out.al
   go_wp2_with fail
   obtain ⟨_,_,_,_,_,_,_,d0,d1,d2,d3,d4,d5,hfin⟩:=FIN.out;refine bodyPost_ret (by simp [results,results308,go_sem,d0,d1,d2,d3,d4,d5,Result.andThen]; try rfl) rfl ?_
   exact hfin
theorem MO (S:Src):∀ (f:Nat),f≤1000000000→∀ d,Said S (parts S f) d:=by
 intro f
 induction f with
 | zero=>exact fun _ d=>⟨fun k w h hnd=>absurd rfl hnd,fun k w h hnd=>absurd rfl hnd,fun k w h hnd=>absurd rfl hnd,fun k w h hnd=>absurd rfl hnd,fun k w h hnd=>absurd rfl hnd,fun a k w h _ hnd=>absurd rfl hnd⟩
 | succ f ih =>
  intro hf d;have hF:f≤1000000000:=by omega
  have hs:=ih hF (d+1);refine ⟨fun k w h hnd=>?_,fun k w h hnd=>?_,fun k w h hnd=>?_,fun k w h hnd=>?_,fun k w h hnd=>?_,fun a k w h hdc hnd=>?_⟩
  ·exact Tm S f (parts S f) d hs hF k w h hnd
  ·exact JG S (qE S f (parts S f) (d+1) k) d k w h (fun hd bx w' hr hx hg ho=>Oa S f (parts S f) (d+1) hs hF bx k w' hr hx hg (fun k w' hr hnd=>Ja S f (parts S f) (d+1) hs hF k w' hr hnd) ho) hnd
  ·exact IK S (qL S f (parts S f) (d+1) k) d k w h (fun hd bx w' hr hx hg ho=>NC S f (parts S f) (d+1) hs hF bx k w' hr hx hg ho) hnd
  ·exact IQ S (qQ S f (parts S f) (d+1) k) d k w h (fun hd bx w' hr hx hg ho=>NV S f (parts S f) (d+1) hs hF bx k w' hr hx hg ho) hnd
  ·exact IA S (qN S f (parts S f) (d+1) k) d k w h (fun hd bx w' hr hx hg ho=>MC S f (parts S f) (d+1) hs hF bx k w' hr hx hg ho) hnd
  ·exact Jp S (qG S f (parts S f) (d+1) a k) a d k w h (fun hd bx byy w' hr hx hg hy hgy ho=>Ob S f (parts S f) (d+1) hs hF bx byy a k w' hr hx hg hy hgy hdc ho) hnd
theorem JE (S:Src) (F:Nat) (hF:F≤1000000000) (n:Nat) (w:World) (h:Rd w S n 0) (hnd:jq S F n≠.dry) :
  Calls prog 81 #[.pointer (some ⟨S.g,0,none⟩)] w fun e w'=>Ends S 0 w (jq S F n) (RB w) e w' :=
 Lr S F n w h (fun w' hr ho=>oh S F (parts S F) 0 (MO S F hF 0) hF 2 n w' hr ho) hnd
end Go.Proofs.YtmpmfamiegpmgaaGreatDoor
