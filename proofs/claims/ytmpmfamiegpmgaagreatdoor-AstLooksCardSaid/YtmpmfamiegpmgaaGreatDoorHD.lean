/-
  Declared: the occurrences of a node, and of all below it, that declare: any row of occurrences, wherever it lies, or none.; Declared where nothing is declared: the empty row sorted.; The document's Size: how many parts a node has, as far as they are counted.; The law's few: a node that is gone through is not great.; The document's Alike without places, whole: what it tells of any two nodes.; An argument that is a branch, read as a plain tree.
-/
import Derived.Test.YtmpmfamiegpmgaaGreatDoorGU
import Derived.Test.YtmpmfamiegpmgaaGreatDoorHA
import Derived.Test.YtmpmfamiegpmgaaGreatDoorGZB
import Derived.Test.YtmpmfamiegpmgaaGreatDoorHC
import Derived.StillTailTactics
import Derived.Deep.Cut
import Derived.Deep.Slices
import Derived.Deep.SlicePairs
import Derived.ChangeSame
import Derived.ProofKit
import Derived.OpenShut
import Derived.ChangeOld
import Derived.Carry
import Derived.Lib.SmallJoins
namespace Go.Proofs.YtmpmfamiegpmgaaGreatDoor
open Tryz
open Go.Lib (cell_of_heap compact hid)
open Go.RowKit Go.Sort
set_option maxRecDepth 20000
set_option linter.unusedVariables false
set_option linter.unusedSimpArgs false
set_option maxHeartbeats 4000000 in
theorem sK (B:World) (ob lb oa off m c:Nat) (sp:Option Addr) (dv:Nat→Bool) (acc:List Int) (P:Nat→Prop) (e:BA) (w:World) (hA:DA B ob acc P w) (hpb:∀ b,P b→b < w.heap.size) (he:e.Good B) (hlb:B.cell? ⟨lb,0,none⟩=some (.slice sp m c)) (RX:lb < B.heap.size)
  (hsp:m=0∨sp=some ⟨oa,off,none⟩∧oa < B.heap.size) (hmc:m≤c) (oW:∀ i,i < m→B.cell? ⟨oa,off+i * 5+4,none⟩=some (.bool (dv i))) (hmm:m≤10000000) (hln:(acc++e.y.h.ns).length≤10000000) (hwf:∀ x ∈ e.y.h.ns,(Lit.int .i64 x).wf=true) :
  Calls prog 66 #[.pointer (some e.ad),.pointer (some ⟨lb,0,none⟩),.pointer (some ⟨ob,0,none⟩)] w fun x w'=>x=.returned (.tuple #[])∧DA B ob (acc++e.y.h.ns.filter (aX m dv)) P w'∧gU P w w':=by
 obtain ⟨y,b,o⟩:=e;have HAT:=hid (fun W (hW:Below B.heap.size B W)=>(he.at_.step he.lt hW));have HN:=hid ((aO _ _).1 he.lies).1;have HL:=hid (fun W (hW:Below B.heap.size B W)=>(hW.cell (p:=⟨lb,0,none⟩) RX).trans hlb);have HO:=hid (fun W (hW:Below B.heap.size B W) i (hi:i < m)=>(hW.cell (p:=⟨oa,off+i * 5+4,none⟩) (hsp.resolve_left (by omega)).2).trans (oW i hi));have Yk:=hid hsp;obtain ⟨h,ks⟩:=y;obtain ⟨hk,hm,hf,ht,np,nn,nc,ns,kp,kn,kc⟩:=h;rw [show (Br.mk ⟨hk,hm,hf,ht,np,nn,nc,ns,kp,kn,kc⟩ ks).h=⟨hk,hm,hf,ht,np,nn,nc,ns,kp,kn,kc⟩ from rfl] at *;dsimp only at *
 have hnn:nn=ns.length:=HN.out.1;have DI:=hid hnn;have UZ:=hid hwf;have Ug:=hid hpb;clear hpb;have hnl:nn≤10000000:=by simp at hln; omega
 have yF:Hid (acc.length+nn≤10000000):=hid (by simp at hln; omega);have infoI:(prog.info? 3).map (fun i=>(i.zero,i.size,i.bytes))=some (some (.int .i64 0),1,8):=by kernel_rfl
 obtain ⟨i0,hi0,hy0,hy1,hy2⟩:=info_parts infoI;have Hf:=hid hA;have yA:Hid (ob < w.heap.size):=hid (by obtain ⟨v,h5,_⟩:=hA.row; exact (Array.getElem?_eq_some_iff.1 h5).1);clear he hln hnn hlb oW hwf infoI hsp;obtain ⟨a0,a1,a2,a3,a4,a5⟩:=HAT.out w hA.below;dsimp only at a0 a1 a2 a3 a4 a5
 clear hA
 go_enter func66,ntmps66
 go_wp2_with fail
 clear a0 a1 a2 a3 a4 a5
 go_loopw [11] (fun iv wr=>∃ i:Nat,i≤nn∧iv=.int .i64 i∧Hid (DA B ob (acc++(ns.take i).filter (aX m dv)) P wr)∧Hid (gU P w wr)) (fun iv _=>nn - (intOf iv).toNat)
 case atStart=>exact ⟨0,by omega,rfl,hid (by simpa using Hf.out),hid ⟨Nat.le_refl _,fun _ _ _=>rfl⟩⟩
 case round =>
  obtain ⟨i,hi,rfl,HA,HKB⟩:=hrel;have hbw:=HA.out.below
  by_cases hlt:i < nn
  ·obtain ⟨b1,off,rfl,hc1,hb1,nN⟩:=HN.out.2.resolve_left (by omega)
   have hil:i < ns.length:=by rw [← DI.out]; exact hlt
   have q0:wr.cell? ⟨b1,off+i,none⟩=some (.int .i64 ns[i]):=(nN.step hb1 hbw) i hil;have q1:=HL.out wr hbw;have r1:(0:Int)≤(i:Int):=by omega
   have r2:(i:Int) < (nn:Int):=by omega
   have htk:ns.take (i+1)=ns.take i++[ns[i]]:=List.take_succ_eq_append_getElem hil;have yG:Hid ((ns.take (i+1)).filter (aX m dv)=(ns.take i).filter (aX m dv)++[ns[i]].filter (aX m dv)):=hid (by rw [htk,List.filter_append]);have hwx:=UZ.out ns[i] (List.getElem_mem hil);have HF2:Hid ((acc++(ns.take i).filter (aX m dv)).length≤acc.length+i):=hid (by rw [List.length_append]; have:=List.length_filter_le (aX m dv) (ns.take i); rw [List.length_take] at this; omega);clear nN htk;generalize hxe:ns[i]=x at *;clear hxe
   by_cases hx0:0≤x
   ·by_cases hxm:x < (m:Int)
    ·obtain ⟨j,rfl⟩:∃ j:Nat,x=j:=⟨x.toNat,by omega⟩
     have hj:j < m:=by omega
     have q2:=HO.out wr hbw j hj;obtain ⟨rfl,_⟩:=Yk.out.resolve_left (by omega)
     cases hd:dv j
     ·rw [hd] at q2
      have qA:Hid ([(j:Int)].filter (aX m dv)=[]):=hid (by simp [aX,hd]);have KG:=hid HA;have HFF:=hid HF2;clear HA HF2
      go_wp2_with fail
      go_roundw
      case rel=>exact ⟨i+1,by omega,by go_num,hid (by rw [yG.out,qA.out,List.append_nil]; exact KG.out.out),HKB⟩
      case measure=>simp [intOf]; omega
     ·rw [hd] at q2
      have qA:Hid ([(j:Int)].filter (aX m dv)=[(j:Int)]):=hid (by simp [aX,hd]; omega);obtain ⟨v,hb5,hown,hblk⟩:=HA.out.row;have q3:wr.cell? ⟨ob,0,none⟩=some v:=cell_of_heap hb5 0;have hfz:wr.frozen? ⟨ob,0,none⟩=false:=by simp [World.frozen?,hb5]
      have wG:ob < wr.heap.size:=(Array.getElem?_eq_some_iff.1 hb5).1;have hbz:=hbw.size;obtain ⟨A,RY⟩:∃ A,A=(acc++(ns.take i).filter (aX m dv)).length:=⟨_,rfl⟩
      have hA2:A≤20000000:=by have:=HF2.out; have:=yF.out; omega
      rw [← RY] at hown;have HOW:=hid hown;have mg:=hid hb5;have zS:=hid hblk;have U0:=hid RY;clear hown hb5 hblk RY HF2
      go_wp2_with (at_builtin; refine wpList_append_lies _ rfl _ _ 23 rfl B.heap.size 3 i0 _ 1 8 underlying23 hi0 hy0 hy1 hy2 rfl (by omega) _ A _ rfl (World.ownsRow.alloc HOW.out _) ⟨wr.heap.size,0,none⟩ 1 1 [.int .i64 (j:Int)] rfl rfl kX (by simp [Value.oneCell']) (by omega) (by unfold maxLen; omega) (by omega) (by simp; omega) (wr.heap.size+1) (by simp) ?_; intro g2 c3 w3 hown3 hgrow hgg hlt3; replace hgrow:(wr.alloc (.cells #[.int .i64 (j:Int)] 3)).grownBy w3 v.ownBlock:=hgrow; replace hgg:v.ownBlock=some g2∨g2=wr.heap.size+1:=hgg; have hb3:w3.heap[ob]?=some (.cells #[v] 23):=(hgrow.block ob (by simp; omega) (fun e=>(zS.out ob e.symm).2 rfl)).trans ((qJ _ _ _ wG).trans mg.out); have c3c:w3.cell? ⟨ob,0,none⟩=some v:=cell_of_heap hb3 0; have c3f:w3.frozen? ⟨ob,0,none⟩=false:=(by simp [World.frozen?,hb3]); have iQ:=hid hgrow; have U1:=hid hgg; have HB3:=hid hb3; have wF:=hid hown3; clear hown3 hgrow hgg hb3)
      go_roundw
      case rel =>
       have hz3:=iQ.out.size;rw [show (wr.alloc (.cells #[.int .i64 (j:Int)] 3)).heap.size=wr.heap.size+1 by simp] at hz3;have hgo:g2≠ob:=by
        rcases U1.out with h | h
        ·exact (zS.out _ h).2
        ·omega
       have hoth:∀ q,q < wr.heap.size→q≠ob→v.ownBlock≠some q→(w3.setCell ⟨ob,0,none⟩ (.slice (some ⟨g2,0,none⟩) (A+1) c3)).heap[q]?=wr.heap[q]?:=fun q hq h1 h2=>by
        rw [Below.heap_setCell _ _ _ _ h1,iQ.out.block q (by simp; omega) (fun e=>h2 e.symm)];exact qJ _ _ _ hq
       have hlow:=HA.out.low;refine ⟨i+1,by omega,by go_num,hid ?_,hid ?_⟩
       ·rw [yG.out,qA.out,← List.append_assoc]
        refine ⟨⟨?_,?_,?_,?_,?_⟩,HA.out.low,HA.out.np,HA.out.pl,_,one_setCell HB3.out,?_,?_⟩
        ·exact iQ.out.os.trans hbw.os
        ·exact iQ.out.tape.trans hbw.tape
        ·exact iQ.out.output.trans hbw.output
        ·simp; omega
        ·intro q hq
         rw [hoth q (by omega) (by omega) (fun e=>by have:=(oL HOW.out e).1; omega)];exact hbw.block q hq
        ·rw [List.length_append,← U0.out,List.length_singleton,lH,List.map_append]
         exact uf wF.out fun g hg=>Below.heap_setCell _ _ _ _ (by
          obtain rfl:g2=g:=by simpa [Value.ownBlock] using hg
          exact hgo)
        ·intro g hg
         obtain rfl:g2=g:=by simpa [Value.ownBlock] using hg
         refine ⟨fun h=>?_,hgo⟩
         rcases U1.out with h1 | h1
         ·exact (zS.out _ h1).1 h
         ·have:=Ug.out _ h; have:=HKB.out.size; omega
       ·refine ⟨?_,fun q hq Xd=>?_⟩
        ·have:=HKB.out.size; simp; omega
        ·have:=HKB.out.size
         rw [hoth q (by omega) (fun e=>HA.out.np (e ▸ hq)) (fun e=>(zS.out _ e).1 hq)];exact HKB.out.blk q hq Xd
      case measure=>simp [intOf]; omega
    ·have qA:Hid ([x].filter (aX m dv)=[]):=hid (by simp [aX,hxm])
     have KG:=hid HA;clear HA HF2
     go_wp2_with fail
     go_roundw
     case rel=>exact ⟨i+1,by omega,by go_num,hid (by rw [yG.out,qA.out,List.append_nil]; exact KG.out.out),HKB⟩
     case measure=>simp [intOf]; omega
   ·have qA:Hid ([x].filter (aX m dv)=[]):=hid (by simp [aX,hx0])
    have KG:=hid HA;clear HA HF2
    go_wp2_with fail
    go_roundw
    case rel=>exact ⟨i+1,by omega,by go_num,hid (by rw [yG.out,qA.out,List.append_nil]; exact KG.out.out),HKB⟩
    case measure=>simp [intOf]; omega
  ·have hin:i=nn:=by omega
   subst hin;have U2:Hid (DA B ob (acc++ns.filter (aX m dv)) P wr):=hid (by have:=HA.out; rw [DI.out,List.take_length] at this; exact this);clear HA hbw
   go_wp2_with fail
   go_end0
   exact ⟨rfl,U2.out,HKB.out⟩
set_option maxHeartbeats 4000000 in
theorem uH (nd:Br) (oa off m c:Nat) (sp:Option Addr) (dv:Nat→Bool) (w:World) (hl:nd.Lies w) (hn:nd.flatB.length≤10000000) (hsp:m=0∨sp=some ⟨oa,off,none⟩∧oa < w.heap.size) (hmc:m≤c) (oW:∀ i,i < m→w.cell? ⟨oa,off+i * 5+4,none⟩=some (.bool (dv i))) (hmm:m≤10000000)
  (hln:(aS nd.flatB).length≤10000000) (hwf:∀ x ∈ aS nd.flatB,(Lit.int .i64 x).wf=true) (hne:(aS nd.flatB).filter (aX m dv)≠[]) :
  Calls prog 28 #[nd.h.val,.slice sp m c] w fun x w'=>∃ g cap,x=.returned (.slice (some ⟨g,0,none⟩) (compact (((aS nd.flatB).filter (aX m dv)).mergeSort fun x y=>decide (x≤y))).length cap) ∧
   w'.ownsRow w.heap.size 3 1 (.slice (some ⟨g,0,none⟩) (compact (((aS nd.flatB).filter (aX m dv)).mergeSort fun x y=>decide (x≤y))).length cap) (compact (((aS nd.flatB).filter (aX m dv)).mergeSort fun x y=>decide (x≤y))).length (lH (compact (((aS nd.flatB).filter (aX m dv)).mergeSort fun x y=>decide (x≤y))))∧Below w.heap.size w w':=by
 have hg0:=kF nd w hl 26;generalize hB0:w.alloc (.cells #[.int .i64 nd.h.k,.int .i64 nd.h.m,.int .i64 nd.h.f,.int .i64 nd.h.t,.slice nd.h.np nd.h.nn nd.h.nc,.slice nd.h.kp nd.h.kn nd.h.kc] 26)=B0 at hg0;have Aq:Below w.heap.size w B0:=by rw [← hB0]; exact (Below.refl _ _).alloc (Nat.le_refl _) _
 have uh:B0.heap.size=w.heap.size+1:=by rw [← hB0]; simp
 generalize hB:B0.alloc (.cells #[.slice sp m c] 27)=B;have hB1:Below B0.heap.size B0 B:=by rw [← hB]; exact (Below.refl _ _).alloc (Nat.le_refl _) _
 have D7:B.heap.size=w.heap.size+1+1:=by rw [← hB,← uh]; simp
 have hg:BA.Good ⟨nd,w.heap.size,0⟩ B:=hg0.step hB1;have hBw:Below w.heap.size w B:=Aq.trans (hB1.mono (by omega));have hlb:B.cell? ⟨w.heap.size+1,0,none⟩=some (.slice sp m c):=by rw [← uh,← hB,cell_of_heap (heap_alloc_new B0 _)]; rfl
 have Ar:∀ i,i < m→B.cell? ⟨oa,off+i * 5+4,none⟩=some (.bool (dv i)):=fun i hi=>(hBw.cell (p:=⟨oa,off+i * 5+4,none⟩) (hsp.resolve_left (by omega)).2).trans (oW i hi)
 have H:=kD ⟨nd,w.heap.size,0⟩ B (B.alloc (.cells #[.slice none 0 0] 23)) hg hn 66 #[.pointer (some ⟨w.heap.size+1,0,none⟩),.pointer (some ⟨B.heap.size,0,none⟩)] TI
  (fun l P w1=>DA B B.heap.size ((aS l).filter (aX m dv)) P w1)
  (fun l P w1 w2 P' h hg hp=>h.stab hg hp)
  (fun l P w1 h=>h.below)
  (by
   rintro l e r P w1 hA hpb he hx;have hx2:aS nd.flatB=aS l++(e.y.h.ns++aS r):=by
    have h9:nd.flatB=l++e.y :: r:=hx.symm;rw [h9,dG]; simp [aS]
   have hlen:=congrArg List.length hx2;rw [List.length_append,List.length_append] at hlen;have hfl:=List.length_filter_le (aX m dv) (aS l);refine (sK B B.heap.size (w.heap.size+1) oa off m c sp dv _ P e w1 hA hpb he hlb (by omega) (hsp.imp id fun h=>⟨h.1,by have:=hBw.size; omega⟩) hmc Ar hmm (by rw [List.length_append]; omega) (fun x hx3=>hwf x (by rw [hx2]; simp [hx3]))).mono ?_
   rintro x w2 ⟨rfl,h1,h2⟩;refine ⟨rfl,?_,h2⟩
   rw [dG,rq,List.filter_append];exact h1)
  (by
   intro w1 P hb hp;have hz:(B.alloc (.cells #[.slice none 0 0] 23)).heap.size=B.heap.size+1:=by simp
   refine ⟨((Below.refl _ _).alloc (Nat.le_refl _) _).trans (hb.mono (by omega)),Nat.le_refl _,fun h=>?_,fun b h=>?_,.slice none 0 0,(hb.block _ (by omega)).trans (heap_alloc_new B _),⟨rfl,.inl ⟨rfl,rfl⟩⟩,fun g hg=>by cases hg⟩
   ·have:=hp _ h; omega
   ·have:=hp _ h; omega)
 have hD:∃ D,D=(aS nd.flatB).filter (aX m dv):=⟨_,rfl⟩
 obtain ⟨D,hD⟩:=hD;have hDl:D.length≤10000000:=by rw [hD]; have:=List.length_filter_le (aX m dv) (aS nd.flatB); omega
 rw [show (⟨nd,w.heap.size,0⟩:BA).y=nd from rfl,← hD] at H;rw [← hD] at hne ⊢;obtain ⟨ts,hts⟩:∃ ts,ts=D.mergeSort fun x y=>decide (x≤y):=⟨_,rfl⟩
 have htl:ts.length=D.length:=by rw [hts]; simp
 rw [← hts];simp only [D7] at H;have HC:=hid H;have sW:=hid hBw;have Gj:=hid D7;have KH:=hid hts;have KI:=hid htl;have KJ:=hid hne;clear H hD hg hn hl hg0 hB1 Aq hlb Ar hBw D7 hts htl hne hln hwf oW;obtain ⟨Dn,hDn⟩:∃ Dn,Dn=D.length:=⟨_,rfl⟩
 have zX:=hid hDn;have U3:Dn≤10000000:=by omega
 rw [← hB,← hB0] at HC;have mi:Hid (B=(w.alloc (.cells #[.int .i64 nd.h.k,.int .i64 nd.h.m,.int .i64 nd.h.f,.int .i64 nd.h.t,.slice nd.h.np nd.h.nn nd.h.nc,.slice nd.h.kp nd.h.kn nd.h.kc] 26)).alloc (.cells #[.slice sp m c] 27)):=hid (by rw [← hB,← hB0]);clear hB hB0 uh hDn hDl
 go_enter func28,ntmps28
 simp only [Hd.val]
 go_wp2_with fail
 refine HC.out.mono ?_
 rintro x w1 ⟨rfl,P,hA⟩;rw [← mi.out] at hA;obtain ⟨hbel,hlow,DJ,hpl,v,hb5,hown,hblk⟩:=hA;obtain ⟨g,cap,hv⟩:∃ g cap,v=.slice (some ⟨g,0,none⟩) Dn cap:=by
  obtain ⟨hl2,⟨_,h0⟩ | ⟨g',c',cur,hv,hb,hh,hle,hm,hs,ht⟩⟩:=hown
  ·exact absurd (by simpa [lH] using h0) KJ.out
  ·exact ⟨g',c',by rw [hv,zX.out]⟩
 subst hv;rw [← zX.out] at hown;have KL:g≠w.heap.size+1+1:=(hblk g rfl).2;have hgB:B.heap.size≤g:=(oL hown rfl).1;have hq:∀ (W W2:World) (ss rs:List Int),W.ownsRow B.heap.size 3 1 (.slice (some ⟨g,0,none⟩) Dn cap) Dn (lH ss)→ss.length=Dn→rs.length=ss.length→(∃ q os,W2=grow (putRow (Value.int .i64) (Sort.ahead W q) g 0 rs.toArray) os)→_:=fun W W2 ss rs h1 h2 h3 h4=>dS h1 h2 h3 h4
 obtain ⟨_,_,hH,hgl,hdc⟩:=dS (w':=grow (putRow (Value.int .i64) (Sort.ahead w1 0) g 0 D.toArray) #[]) hown zX.out.symm rfl ⟨0,#[],rfl⟩;have JQ:=slices_Sort_int g 0 cap D w1 hH hgl (by have:=zX.out; omega);rw [← KH.out] at JQ;rw [show D.length=Dn from zX.out.symm] at JQ;have c5:w1.cell? ⟨w.heap.size+1+1,0,none⟩=some (.slice (some ⟨g,0,none⟩) Dn cap):=cell_of_heap hb5 0;have wG:w.heap.size+1+1 < w1.heap.size:=(Array.getElem?_eq_some_iff.1 hb5).1;have QH:=hid JQ;have HOW:=hid hown;have wH:=hid hbel;clear JQ hown hbel hlow DJ hpl hblk hb5 hq HC hH
 go_wp2_with fail
 refine QH.out.mono ?_
 rintro x w2 ⟨rfl,nn,os,hw2⟩;obtain ⟨hown2,nI,_,_,_⟩:=dS HOW.out zX.out.symm KI.out ⟨nn,os,hw2⟩;clear hw2;have c6:w2.cell? ⟨w.heap.size+1+1,0,none⟩=some (.slice (some ⟨g,0,none⟩) Dn cap):=(World.cell?_of_block (a:=⟨w.heap.size+1+1,0,none⟩) (nI.block _ wG (fun e=>KL (Option.some.inj e).symm))).trans c5;have yH:ts.length=Dn:=by rw [KI.out,← zX.out]
 obtain ⟨_,_,hH2,_,_⟩:=dS (w':=grow (putRow (Value.int .i64) (Sort.ahead w2 0) g 0 ts.toArray) #[]) hown2 yH rfl ⟨0,#[],rfl⟩;have RZ:=slices_Compact_int g 0 cap ts w2 hH2 (by omega) (by omega);rw [yH] at RZ;have HS2:=hid RZ;have mr:=hid hown2;have HG2:=hid nI;have HT2:=hid yH;clear RZ hown2 nI hH2 yH QH c5
 go_wp2_with fail
 refine HS2.out.mono ?_
 rintro x w3 ⟨rfl,q,hw3⟩;have hcl:=FV ts;obtain ⟨hown3,KN,_,_,_⟩:=dS (w':=w3) mr.out HT2.out (ts:=compact ts++List.replicate (Dn - (compact ts).length) 0) (by rw [List.length_append,List.length_replicate]; have:=HT2.out; omega) ⟨q,#[],by rw [grow_empty]; exact hw3⟩;have hown4:=uU hown3 (k:=(compact ts).length) (by have:=HT2.out; omega);rw [show (lH (compact ts++List.replicate (Dn - (compact ts).length) 0)).take (compact ts).length=lH (compact ts) by simp [lH]] at hown4;have hbz:=Gj.out;have hB2:=dE (dE wH.out HG2.out hgB) KN hgB;have HF:Hid (w3.ownsRow w.heap.size 3 1 (.slice (some ⟨g,0,none⟩) (compact ts).length cap) (compact ts).length (lH (compact ts))∧RowKit.Below w.heap.size w w3):=hid ⟨by
  obtain ⟨h1,h2 | ⟨g',c',cur,h2,h3,h4⟩⟩:=hown4
  ·exact ⟨h1,.inl h2⟩
  ·exact ⟨h1,.inr ⟨g',c',cur,h2,by omega,h4⟩⟩,sW.out.trans (hB2.mono (by omega))⟩
 clear hown3 KN hown4 hw3 hB2 hcl HS2
 go_wp2_with fail
 go_ret
 exact ⟨g,cap,rfl,HF.out.1,HF.out.2⟩
set_option maxHeartbeats 4000000 in
theorem Eu (w:World):Calls prog 141 #[.slice none 0 0,.int .i64 0,.int .i64 0] w fun e w'=>e=.returned (.tuple #[])∧w'=w:=by
 go_enter func141,ntmps141
 go_wp2_with fail
 go_loopw [6] (fun i wr=>i=.int .i64 1∧wr=w) (fun _ _=>1)
 case atStart=>exact ⟨rfl,rfl⟩
 case round =>
  obtain ⟨rfl,rfl⟩:=hrel
  go_wp2_with fail
  go_end0
  exact ⟨rfl,rfl⟩
set_option maxHeartbeats 4000000 in
theorem Fe (w:World) (x:Value):Calls prog 103 #[.slice none 0 0,.int .i64 0,.int .i64 0,x] w fun e w'=>e=.returned (.tuple #[])∧w'=w:=by
 have HI:=hid Eu
 go_enter func103,ntmps103
 go_wp2_with fail
 go_loopw [1,2,3,8,9] (fun p q a b c wr=>p=.int .i64 0∧q=.int .i64 0∧a=x∧b=.bool true∧c=.bool true∧wr=w) (fun _ _ _ _ _ _=>1)
 case atStart=>exact ⟨rfl,rfl,rfl,rfl,rfl,rfl⟩
 case round =>
  obtain ⟨rfl,rfl,rfl,rfl,rfl,rfl⟩:=hrel
  go_wp2_with fail
  refine (HI.out _).mono ?_
  rintro e w' ⟨rfl,rfl⟩
  go_wp2_with fail
  go_returns
  exact ⟨rfl,rfl⟩
set_option maxHeartbeats 4000000 in
theorem FH (w:World):Calls prog 151 #[.int .u64 0] w fun e w'=>e=.returned (.int .i64 0)∧w'=w:=by
 go_enter func151,ntmps151
 go_wp2_with fail
 go_ret
 exact ⟨by rw [show wrap64 (wrap64 (Lib.len8 0))=0 from by kernel_rfl]; rfl,rfl⟩
set_option maxHeartbeats 4000000 in
theorem Fg (w:World):Calls prog 104 #[.int .u64 0] w fun e w'=>e=.returned (.int .i64 0)∧w'=w:=by
 have HI:=hid FH
 go_enter func104,ntmps104
 go_wp2_with fail
 refine (HI.out _).mono ?_
 rintro e w' ⟨rfl,rfl⟩
 go_wp2_with fail
 go_ret
 exact ⟨rfl,rfl⟩
set_option maxHeartbeats 4000000 in
theorem Ff (w:World):Calls prog 67 #[.slice none 0 0] w fun e w'=>e=.returned (.tuple #[])∧w'=w:=by
 have H1:=hid Fg;have H2:=hid Fe
 go_enter func67,ntmps67
 go_wp2_with fail
 refine (H1.out _).mono ?_
 rintro e w' ⟨rfl,rfl⟩
 go_wp2_with fail
 refine (H2.out _ _).mono ?_
 rintro e w' ⟨rfl,rfl⟩
 go_wp2_with fail
 go_end0
 exact ⟨rfl,rfl⟩
set_option maxHeartbeats 4000000 in
theorem uq (nd:Br) (oa off m c:Nat) (sp:Option Addr) (dv:Nat→Bool) (w:World) (hl:nd.Lies w) (hn:nd.flatB.length≤10000000) (hsp:m=0∨sp=some ⟨oa,off,none⟩∧oa < w.heap.size) (hmc:m≤c) (oW:∀ i,i < m→w.cell? ⟨oa,off+i * 5+4,none⟩=some (.bool (dv i))) (hmm:m≤10000000)
  (hln:(aS nd.flatB).length≤10000000) (hwf:∀ x ∈ aS nd.flatB,(Lit.int .i64 x).wf=true) (hne:(aS nd.flatB).filter (aX m dv)=[]) :
  Calls prog 28 #[nd.h.val,.slice sp m c] w fun x w'=>∃ p cap,x=.returned (.slice p 0 cap)∧Below w.heap.size w w':=by
 have hg0:=kF nd w hl 26;generalize hB0:w.alloc (.cells #[.int .i64 nd.h.k,.int .i64 nd.h.m,.int .i64 nd.h.f,.int .i64 nd.h.t,.slice nd.h.np nd.h.nn nd.h.nc,.slice nd.h.kp nd.h.kn nd.h.kc] 26)=B0 at hg0;have Aq:Below w.heap.size w B0:=by rw [← hB0]; exact (Below.refl _ _).alloc (Nat.le_refl _) _
 have uh:B0.heap.size=w.heap.size+1:=by rw [← hB0]; simp
 generalize hB:B0.alloc (.cells #[.slice sp m c] 27)=B;have hB1:Below B0.heap.size B0 B:=by rw [← hB]; exact (Below.refl _ _).alloc (Nat.le_refl _) _
 have D7:B.heap.size=w.heap.size+1+1:=by rw [← hB,← uh]; simp
 have hg:BA.Good ⟨nd,w.heap.size,0⟩ B:=hg0.step hB1;have hBw:Below w.heap.size w B:=Aq.trans (hB1.mono (by omega));have hlb:B.cell? ⟨w.heap.size+1,0,none⟩=some (.slice sp m c):=by rw [← uh,← hB,cell_of_heap (heap_alloc_new B0 _)]; rfl
 have Ar:∀ i,i < m→B.cell? ⟨oa,off+i * 5+4,none⟩=some (.bool (dv i)):=fun i hi=>(hBw.cell (p:=⟨oa,off+i * 5+4,none⟩) (hsp.resolve_left (by omega)).2).trans (oW i hi)
 have H:=kD ⟨nd,w.heap.size,0⟩ B (B.alloc (.cells #[.slice none 0 0] 23)) hg hn 66 #[.pointer (some ⟨w.heap.size+1,0,none⟩),.pointer (some ⟨B.heap.size,0,none⟩)] TI
  (fun l P w1=>DA B B.heap.size ((aS l).filter (aX m dv)) P w1)
  (fun l P w1 w2 P' h hg hp=>h.stab hg hp)
  (fun l P w1 h=>h.below)
  (by
   rintro l e r P w1 hA hpb he hx;have hx2:aS nd.flatB=aS l++(e.y.h.ns++aS r):=by
    have h9:nd.flatB=l++e.y :: r:=hx.symm;rw [h9,dG]; simp [aS]
   have hlen:=congrArg List.length hx2;rw [List.length_append,List.length_append] at hlen;have hfl:=List.length_filter_le (aX m dv) (aS l);refine (sK B B.heap.size (w.heap.size+1) oa off m c sp dv _ P e w1 hA hpb he hlb (by omega) (hsp.imp id fun h=>⟨h.1,by have:=hBw.size; omega⟩) hmc Ar hmm (by rw [List.length_append]; omega) (fun x hx3=>hwf x (by rw [hx2]; simp [hx3]))).mono ?_
   rintro x w2 ⟨rfl,h1,h2⟩;refine ⟨rfl,?_,h2⟩
   rw [dG,rq,List.filter_append];exact h1)
  (by
   intro w1 P hb hp;have hz:(B.alloc (.cells #[.slice none 0 0] 23)).heap.size=B.heap.size+1:=by simp
   refine ⟨((Below.refl _ _).alloc (Nat.le_refl _) _).trans (hb.mono (by omega)),Nat.le_refl _,fun h=>?_,fun b h=>?_,.slice none 0 0,(hb.block _ (by omega)).trans (heap_alloc_new B _),⟨rfl,.inl ⟨rfl,rfl⟩⟩,fun g hg=>by cases hg⟩
   ·have:=hp _ h; omega
   ·have:=hp _ h; omega)
 have hD:∃ D,D=(aS nd.flatB).filter (aX m dv):=⟨_,rfl⟩
 obtain ⟨D,hD⟩:=hD;have hDl:D.length≤10000000:=by rw [hD]; have:=List.length_filter_le (aX m dv) (aS nd.flatB); omega
 rw [show (⟨nd,w.heap.size,0⟩:BA).y=nd from rfl,← hD] at H;rw [← hD] at hne;obtain ⟨ts,hts⟩:∃ ts,ts=D.mergeSort fun x y=>decide (x≤y):=⟨_,rfl⟩
 have htl:ts.length=D.length:=by rw [hts]; simp
 simp only [D7] at H;have HC:=hid H;have sW:=hid hBw;have Gj:=hid D7;have KH:=hid hts;have KI:=hid htl;have KJ:=hid hne;clear H hD hg hn hl hg0 hB1 Aq hlb Ar hBw D7 hts htl hne hln hwf oW;obtain ⟨Dn,hDn⟩:∃ Dn,Dn=D.length:=⟨_,rfl⟩
 have zX:=hid hDn;have U3:Dn≤10000000:=by omega
 rw [← hB,← hB0] at HC;have mi:Hid (B=(w.alloc (.cells #[.int .i64 nd.h.k,.int .i64 nd.h.m,.int .i64 nd.h.f,.int .i64 nd.h.t,.slice nd.h.np nd.h.nn nd.h.nc,.slice nd.h.kp nd.h.kn nd.h.kc] 26)).alloc (.cells #[.slice sp m c] 27)):=hid (by rw [← hB,← hB0]);clear hB hB0 uh hDn hDl
 go_enter func28,ntmps28
 simp only [Hd.val]
 go_wp2_with fail
 refine HC.out.mono ?_
 rintro x w1 ⟨rfl,P,hA⟩;rw [← mi.out] at hA;obtain ⟨hbel,hlow,DJ,hpl,v,hb5,hown,hblk⟩:=hA;have hd0:Dn=0:=by rw [zX.out,KJ.out]; rfl
 have c5:w1.cell? ⟨w.heap.size+1+1,0,none⟩=some v:=cell_of_heap hb5 0;have wG:w.heap.size+1+1 < w1.heap.size:=(Array.getElem?_eq_some_iff.1 hb5).1;have kN:Hid (Below w.heap.size w w1):=hid (sW.out.trans (hbel.mono sW.out.size));obtain ⟨hl2,⟨hv,h0⟩ | ⟨g,cap,cur,hv,hgb,hh,hle,hm,hs,ht⟩⟩:=id hown
 ·subst hv
  have HS:=hid (Ff w1);have HC2:=hid (slices_Compact_int_empty none 0 w1);clear hbel hlow DJ hpl hb5 hown hblk h0 hl2 HC
  go_wp2_with fail
  refine HS.out.mono ?_
  rintro x w2 ⟨rfl,rfl⟩
  go_wp2_with fail
  refine HC2.out.mono ?_
  rintro x w3 ⟨rfl,rfl⟩
  go_wp2_with fail
  go_ret
  exact ⟨none,0,rfl,kN.out⟩
 ·have hv2:v=.slice (some ⟨g,0,none⟩) 0 cap:=by rw [hv,← zX.out,hd0]
  subst hv2;have KL:g≠w.heap.size+1+1:=(hblk g rfl).2;have hgl:g < w1.heap.size:=(Array.getElem?_eq_some_iff.1 hh).1;have hown0:w1.ownsRow B.heap.size 3 1 (.slice (some ⟨g,0,none⟩) 0 cap) 0 (lH []):=by
   have:=hown
   rw [KJ.out] at this;exact this
  obtain ⟨_,_,hH,_,_⟩:=dS (w':=grow (putRow (Value.int .i64) (Sort.ahead w1 0) g 0 ([]:List Int).toArray) #[]) hown0 rfl rfl ⟨0,#[],rfl⟩;have JQ:=slices_Sort_int g 0 cap [] w1 hH hgl (by simp);have QH:=hid JQ;have HOW:=hid hown0;clear JQ hown hown0 hbel hlow DJ hpl hblk hb5 hH HC hv hh hl2 hle hm hs ht
  go_wp2_with fail
  refine QH.out.mono ?_
  rintro x w2 ⟨rfl,nn,os,hw2⟩;obtain ⟨_,nI,_,_,_⟩:=dS (ts:=[]) HOW.out rfl rfl ⟨nn,os,by simpa using hw2⟩;clear hw2;have c6:w2.cell? ⟨w.heap.size+1+1,0,none⟩=some (.slice (some ⟨g,0,none⟩) 0 cap):=(World.cell?_of_block (a:=⟨w.heap.size+1+1,0,none⟩) (nI.block _ wG (fun e=>KL (Option.some.inj e).symm))).trans c5;have HC2:=hid (slices_Compact_int_empty (some ⟨g,0,none⟩) cap w2);have VM:Hid (Below w.heap.size w w2):=hid (kN.out.grown nI kN.out.size fun a ha=>by cases ha; have:=Gj.out; omega);clear c5 nI QH HOW
  go_wp2_with fail
  refine HC2.out.mono ?_
  rintro x w3 ⟨rfl,rfl⟩
  go_wp2_with fail
  go_ret
  exact ⟨_,cap,rfl,VM.out⟩
open Go.RowKit
set_option maxHeartbeats 4000000 in
theorem EO (a:Br):∀ (m:Nat) (w:World),a.Lies w→m≤1000000 →
  Calls prog 35 #[a.h.val,.int .i64 m] w fun e w'=>e=.returned (.int .i64 ((min a.flatB.length (m+1):Nat):Int))∧Below w.heap.size w w':=by
 induction a using Br.ind with
 | hP h ks ih =>
  intro m w hl hm;obtain ⟨w1,e1⟩:∃ w1,w1=w.alloc (.cells #[.int .i64 h.k,.int .i64 h.m,.int .i64 h.f,.int .i64 h.t,.slice h.np h.nn h.nc,.slice h.kp h.kn h.kc] 26):=⟨_,rfl⟩
  have b1:Below w.heap.size w w1:=by rw [e1]; exact (Below.refl _ _).alloc (Nat.le_refl _) _
  have s1:w1.heap.size=w.heap.size+1:=by rw [e1]; simp
  have c1:bP w1 w.heap.size 0 h:=by rw [e1]; exact gX w h 26
  have l1:=hl.step _ b1;obtain ⟨_,hkids,hall⟩:=(aO _ _).1 l1;simp only [Br.h,Br.ks] at hkids hall ⊢;have hfl:(Br.mk h ks).flatB.length=1+(aB ks).length:=by simp only [Br.flatB,List.length_cons]; omega
  rw [hfl];obtain ⟨hk,hm0,hf,ht,np,nn,nc,ns,kp,kn,kc⟩:=h
  simp only at hkids c1 e1 ⊢
  have hkn:kn=ks.length:=hkids.1;subst hkn;have HK:=hid hkids;have HL:=hid hall;have HI:=hid ih;have HB:=hid b1;have HC:=hid c1;have HE:=hid e1;have HS:=hid s1;have dW:Hid (∀ i (h:i < ks.length),(aB (ks.take (i+1))).length=(aB (ks.take i)).length+ks[i].flatB.length):=hid fun i h=>by rw [su h,List.length_append]
  have HLE:Hid (∀ i,(aB (ks.take i)).length≤(aB ks).length):=hid fun i=>rO ks i
  have Hl:Hid ((aB (ks.take ks.length)).length=(aB ks).length):=hid (by rw [List.take_length]);have ach:Hid (∀ i (h:i < ks.length),1≤ks[i].flatB.length):=hid fun i h=>ig _
  generalize hT:(aB ks).length=T at HLE Hl ⊢;clear hkids hall ih b1 c1 e1 s1 l1 hl hfl hT
  show Calls prog 35 #[.agg #[.int .i64 hk,.int .i64 hm0,.int .i64 hf,.int .i64 ht,.slice np nn nc,.slice kp ks.length kc],.int .i64 m] w _
  go_enter func35,ntmps35
  go_wp2_with fail
  rw [← HE.out]
  go_loopw [5,6] (fun kv iv wr=>∃ i:Nat,i≤ks.length∧iv=.int .i64 i∧kv=.int .i64 ((min (1+(aB (ks.take i)).length) (m+1):Nat):Int)∧Hid (Below w1.heap.size w1 wr)) (fun _ iv _=>ks.length - (intOf iv).toNat)
  case atStart=>exact ⟨0,by omega,rfl,by simp [aB],hid (Below.refl _ _)⟩
  case round =>
   obtain ⟨i,hi,rfl,rfl,mi⟩:=hrel;have hbe:=mi.out;obtain ⟨t0,t1,t2,t3,t4,t5⟩:=HC.out.step (by have:=HS.out; omega) hbe;simp only [Nat.zero_add] at t0 t1 t2 t3 t4 t5;obtain ⟨s,hs⟩:∃ s,s=(aB (ks.take i)).length:=⟨_,rfl⟩
   rw [← hs];have hz:=hbe.size
   by_cases hlt:i < ks.length
   ·have hr1:(0:Int)≤(i:Int):=by omega
    have hr2:(i:Int) < (ks.length:Int):=by omega
    by_cases hle:1+s≤m
    ·obtain ⟨q,hq⟩:∃ q,q=1+s:=⟨_,rfl⟩
     have hmin:min (1+s) (m+1)=q:=by omega
     rw [hmin];obtain ⟨bx,ox,rfl,_,hbx,ui⟩:=HK.out.2.resolve_left (by omega);obtain ⟨x0,x1,x2,x3,x4,x5⟩:=(ui i hlt).step hbx hbe;have hq1:(q:Int)≤(m:Int):=by omega
     have hi6:i≤1000000:=by have:=pM (ks.take i); rw [List.length_take,← hs] at this; omega
     have HQM:Hid ((m:Int) - (q:Int)=((m - q:Nat):Int)):=hid (by omega);have HX:=hid (HI.out ks[i] (List.getElem_mem hlt) (m - q) wr ((HL.out _ (List.getElem_mem hlt)).step _ hbe) (by omega));have Oe:Hid (min (1+(aB (ks.take (i+1))).length) (m+1)=q+min ks[i].flatB.length (m - q+1)):=hid (by
      rw [dW.out i hlt,← hs]; omega)
     have HQ6:Hid (q+min ks[i].flatB.length (m - q+1)≤1000001):=hid (by omega);clear ui hs hbe hq hmin;generalize ks[i]=x at *
     go_wp2_with fail
     rw [HQM.out];refine HX.out.mono ?_
     rintro e w4 ⟨rfl,hb4⟩;obtain ⟨r,hr⟩:∃ r,r=min x.flatB.length (m - q+1):=⟨_,rfl⟩
     rw [← hr] at Oe HQ6 ⊢;have hq6:=HQ6.out;have HB4:=hid (mi.out.trans (hb4.mono hz));clear hb4 hr HX
     go_wp2_with fail
     go_roundw
     case rel=>exact ⟨i+1,by omega,by go_num,by rw [Oe.out]; go_num,HB4⟩
     case measure=>simp [intOf]; omega
    ·have hmin:min (1+s) (m+1)=m+1:=by omega
     rw [hmin];have hq1:¬ ((m+1:Nat):Int)≤(m:Int):=by omega
     have HR:Hid (min (1+T) (m+1)=m+1):=hid (by have:=HLE.out i; omega);have kN:=hid (HB.out.trans (hbe.mono HB.out.size));clear hs hbe
     go_wp2_with fail
     go_ret
     exact ⟨by rw [HR.out]; rfl,kN.out⟩
   ·have HR:Hid (s=T):=hid (by rw [hs,← Hl.out,show i=ks.length by omega])
    have hr2:¬ (i:Int) < (ks.length:Int):=by omega
    have kN:=hid (HB.out.trans (hbe.mono HB.out.size));clear hs hbe
    go_wp2_with fail
    go_ret
    exact ⟨by rw [HR.out]; rfl,kN.out⟩
theorem vz {w:World} {base E size n:Nat} {v:Value} {xs:List Value} (h:w.ownsRow base E size v n xs):∃ p c,v=.slice p n c:=by
 rcases h.2 with ⟨rfl,h0⟩ | ⟨g,c,cur,rfl,_⟩
 ·exact ⟨none,0,by rw [h0]⟩
 ·exact ⟨_,_,rfl⟩
theorem oq {w:World} {B E size n c:Nat} {q:Option Addr} {xs:List Value} (h:w.ownsRow B E size (.slice q n c) n xs) (hn:0 < n):∃ g cs,q=some ⟨g,0,none⟩∧n≤c∧B≤g∧w.heap[g]?=some (.cells cs E (0,0)):=by
 obtain ⟨_,⟨_,h0⟩ | ⟨g,cc,cur,hv,hg,hh,hle,_⟩⟩:=h
 ·omega
 ·simp only [Value.slice.injEq,true_and] at hv
  obtain ⟨rfl,rfl⟩:=hv;exact ⟨g,cur,rfl,hle,hg,hh⟩
theorem vg (l:List Br):bg l=aT l:=by
 induction l with
 | nil=>rfl
 | cons x r ih=>simp only [bg,aT,List.flatMap_cons] at *; rw [ih]; rfl
def kG (l:List Br):Nat:=(l.map fun y=>min y.h.nn 1000).sum
theorem Jv (l:List Br) (k:Nat) (y:Br) (h:l[k]?=some y):kG (l.take (k+1))=kG (l.take k)+min y.h.nn 1000:=by
 obtain ⟨hk,e⟩:=List.getElem?_eq_some_iff.1 h;rw [List.take_succ_eq_append_getElem hk]
 simp [kG,e]
theorem Pi (l:List Br):kG l≤l.length * 1000:=by
 induction l with
 | nil=>simp [kG]
 | cons f r ih =>
  simp only [kG,List.map_cons,List.sum_cons,List.length_cons] at *
  omega
structure Eo (nd:Br):Prop where
 len:nd.flatB.length≤200
 nms:(aS nd.flatB).length≤500
 few:nd.Few
theorem mM {w:World}:∀ (x:Br),x.Lies w→∀ y ∈ x.flatB,y.Lies w:=by
 refine Br.ind (P:=fun x=>x.Lies w→∀ y ∈ x.flatB,y.Lies w) ?_
 intro h ks ih hl y hy;rw [cZ] at hy
 rcases List.mem_cons.1 hy with rfl | hy
 ·exact hl
 ·obtain ⟨_,_,h3⟩:=(aO _ _).1 hl
  simp only [Br.ks] at h3 hy;have key:∀ l:List Br,(∀ k ∈ l,k ∈ ks)→y ∈ aB l→y.Lies w:=by
   intro l
   induction l with
   | nil=>intro _ hm; simp [aB] at hm
   | cons b r ihr =>
    intro hs hm;simp only [aB,List.mem_append] at hm
    rcases hm with hm | hm
    ·exact ih b (hs b (by simp)) (h3 b (hs b (by simp))) y hm
    ·exact ihr (fun k hk=>hs k (by simp [hk])) hm
  exact key ks (fun k hk=>hk) hy
theorem Iw:∀ (x:Br),(∀ y ∈ x.flatB,y.h.ns.length≤1000000∧y.ks.length≤1000000)→x.Few:=by
 refine Br.ind (P:=fun x=>(∀ y ∈ x.flatB,y.h.ns.length≤1000000∧y.ks.length≤1000000)→x.Few) ?_
 intro h ks ih hall;have h0:=hall _ (by rw [cZ]; exact List.mem_cons_self);simp only [Br.Few,fM];refine ⟨h0.1,h0.2,fun b hb=>ih b hb fun y hy=>hall y ?_⟩
 rw [cZ];refine List.mem_cons_of_mem _ ?_
 simp only [Br.ks];have key:∀ l:List Br,b ∈ l→y ∈ aB l:=by
  intro l
  induction l with
  | nil=>intro hm; cases hm
  | cons z r ihr =>
   intro hm;simp only [aB,List.mem_append]
   rcases List.mem_cons.1 hm with rfl | hm
   ·exact .inl hy
   ·exact .inr (ihr hm)
 exact key ks hb
theorem JB:∀ (x:Br),∀ y ∈ x.flatB,y.flatB.length≤x.flatB.length:=by
 refine Br.ind (P:=fun x=>∀ y ∈ x.flatB,y.flatB.length≤x.flatB.length) ?_
 intro h ks ih y hy;rw [cZ] at hy
 rcases List.mem_cons.1 hy with rfl | hy
 ·exact Nat.le_refl _
 ·simp only [Br.ks] at hy
  have key:∀ l:List Br,(∀ k ∈ l,k ∈ ks)→y ∈ aB l→y.flatB.length≤(aB l).length:=by
   intro l
   induction l with
   | nil=>intro _ hm; simp [aB] at hm
   | cons b r ihr =>
    intro hs hm;simp only [aB,List.mem_append,List.length_append] at *
    rcases hm with hm | hm
    ·have:=ih b (hs b (by simp)) y hm; omega
    ·have:=ihr (fun k hk=>hs k (by simp [hk])) hm; omega
  have:=key ks (fun k hk=>hk) hy
  rw [cZ (.mk h ks),List.length_cons];simp only [Br.ks]
  omega
theorem Qa {nd:Br} {w:World} (hl:nd.Lies w) (h1:nd.flatB.length≤200) (h2:kG nd.flatB≤500):Eo nd:=by
 have hnn:∀ y ∈ nd.flatB,y.h.nn=y.h.ns.length∧y.ks.length≤200:=fun y hy=>by
  have Gm:=(aO _ _).1 (mM nd hl y hy)
  have:=JB nd y hy
  rw [cZ,List.length_cons] at this;have h3:=pM y.ks;exact ⟨Gm.1.1,by omega⟩
 have key:∀ l:List Br,(∀ y ∈ l,y.h.nn=y.h.ns.length)→kG l≤500→(aS l).length≤kG l∧∀ y ∈ l,y.h.ns.length≤500:=by
  intro l
  induction l with
  | nil=>intro _ _; exact ⟨by simp [aS],by simp⟩
  | cons y r ih =>
   intro hs hc;simp only [kG,List.map_cons,List.sum_cons] at hc;obtain ⟨i1,i2⟩:=ih (fun z hz=>hs z (by simp [hz])) (by simp only [kG]; omega);have hy:=hs y (by simp);simp only [kG] at i1;refine ⟨?_,fun z hz=>?_⟩
   ·simp only [aS,List.flatMap_cons,List.length_append,kG,List.map_cons,List.sum_cons] at *
    omega
   ·rcases List.mem_cons.1 hz with rfl | hz
    ·omega
    ·exact i2 z hz
 obtain ⟨k1,k2⟩:=key nd.flatB (fun y hy=>(hnn y hy).1) h2;exact ⟨h1,Nat.le_trans k1 h2,Iw nd fun y hy=>⟨by have:=k2 y hy; omega,by have:=(hnn y hy).2; omega⟩⟩
def Lc (nd:Br) (w:World) (e:Ending) (w':World):Prop:=∃ b:Bool,e=.returned (.bool b)∧(b=true→Eo nd)∧Below w.heap.size w w'
set_option maxHeartbeats 4000000 in
theorem xx (nd:Br) (w:World) (hl:nd.Lies w) :
  Calls prog 22 #[nd.h.val] w (Lc nd w):=by
 obtain ⟨w1,e1⟩:∃ w1,w1=w.alloc (.cells #[.int .i64 nd.h.k,.int .i64 nd.h.m,.int .i64 nd.h.f,.int .i64 nd.h.t,.slice nd.h.np nd.h.nn nd.h.nc,.slice nd.h.kp nd.h.kn nd.h.kc] 26):=⟨_,rfl⟩
 have b1:Below w.heap.size w w1:=by rw [e1]; exact (Below.refl _ _).alloc (Nat.le_refl _) _
 have s1:w.heap.size < w1.heap.size:=by rw [e1]; simp
 have c1:bP w1 w.heap.size 0 nd.h:=by rw [e1]; exact gX w nd.h 26
 have l1:=hl.step _ b1;have tX:Hid (Calls prog 35 #[.agg #[.int .i64 nd.h.k,.int .i64 nd.h.m,.int .i64 nd.h.f,.int .i64 nd.h.t,.slice nd.h.np nd.h.nn nd.h.nc,.slice nd.h.kp nd.h.kn nd.h.kc],.int .i64 200] w1 fun e w'=>e=.returned (.int .i64 ((min nd.flatB.length 201:Nat):Int))∧Below w1.heap.size w1 w'):=hid (EO nd 200 w1 l1 (by omega));have pJ:Hid (∀ W,Below w1.heap.size w1 W→nd.flatB.length≤200→Calls prog 23 #[.agg #[.int .i64 nd.h.k,.int .i64 nd.h.m,.int .i64 nd.h.f,.int .i64 nd.h.t,.slice nd.h.np nd.h.nn nd.h.nc,.slice nd.h.kp nd.h.kn nd.h.kc]] W fun e w'=>∃ v,e=.returned v∧w'.ownsRow W.heap.size 26 6 v nd.flatB.length (bg nd.flatB)∧Below W.heap.size W w'):=hid fun W hW hn=>ww nd W (l1.step _ hW) (by omega)
 have HE:=hid e1;have HB1:=hid b1;have HC:=hid (fun W (hW:Below w1.heap.size w1 W)=>c1.step s1 hW);have HFW:Hid (nd.flatB.length≤200→kG nd.flatB≤500→Eo nd):=hid fun h1 h2=>Qa hl h1 h2
 have c10:=c1;obtain ⟨t0,t1,t2,t3,t4,t5⟩:=c1;simp only [Nat.zero_add] at t0 t1 t2 t3 t4 t5;clear c10 e1 b1 s1 l1 hl
 show Calls prog 22 #[.agg #[.int .i64 nd.h.k,.int .i64 nd.h.m,.int .i64 nd.h.f,.int .i64 nd.h.t,.slice nd.h.np nd.h.nn nd.h.nc,.slice nd.h.kp nd.h.kn nd.h.kc]] w _
 go_enter func22,ntmps22
 go_upto_region 1 with (fail)
 rw [← HE.out]
 go_wp2_with fail
 refine tX.out.mono ?_
 rintro e w2 ⟨rfl,hb2⟩;have HB2:=hid hb2
 by_cases hn:nd.flatB.length≤200
 ·have hmin:((min nd.flatB.length 201:Nat):Int)=(nd.flatB.length:Int):=by omega
  rw [hmin];have h2:¬ (200:Int) < (nd.flatB.length:Int):=by omega
  have yF:=hid (pJ.out w2 hb2 hn);obtain ⟨u0,u1,u2,u3,u4,u5⟩:=HC.out w2 hb2;simp only [Nat.zero_add] at u0 u1 u2 u3 u4 u5;clear hmin hb2 pJ tX t0 t1 t2 t3 t4 t5;obtain ⟨L,hL⟩:∃ L,L=nd.flatB.length:=⟨_,rfl⟩
  rw [← hL] at hn h2 yF HFW ⊢;have QR:=hid hL;clear hL
  go_wp2_with fail
  refine yF.out.mono ?_
  rintro e w3 ⟨v,rfl,hr3,hb3⟩;obtain ⟨sp,sc,rfl⟩:=vz hr3;have HR:=hid hr3;have HB3:=hid (HB2.out.trans (hb3.mono HB2.out.size));clear hr3 hb3 yF u0 u1 u2 u3 u4 u5 h2
  go_wp2_with fail
  go_loopw [3,12] (fun kv iv wr=>∃ i:Nat,i≤L∧iv=.int .i64 i∧kv=.int .i64 (kG (nd.flatB.take i):Nat)∧Hid (Below w3.heap.size w3 wr)) (fun _ iv _=>L - (intOf iv).toNat)
  case atStart=>exact ⟨0,by omega,rfl,by simp [kG],hid (Below.refl _ _)⟩
  case round =>
   obtain ⟨i,hi,rfl,rfl,mi⟩:=hrel;have hbd:kG (nd.flatB.take i)≤200000:=by
    have:=Pi (nd.flatB.take i)
    rw [List.length_take] at this
    omega
   by_cases hlt:i < L
   ·obtain ⟨g,cs,rfl,hle,hg,hh⟩:=oq HR.out (by omega)
    obtain ⟨y,hy⟩:∃ y,nd.flatB[i]?=some y:=⟨_,List.getElem?_eq_getElem (by rw [← QR.out]; exact hlt)⟩
    have hro:=HR.out;rw [vg] at hro;have hgl:=Go.Proofs.YtmpmfamiegpmgaaGreatDoor.hlt hh;obtain ⟨y0,y1,y2,y3,y4,y5⟩:=(nT hro i y hy).step hgl mi.out;rw [Nat.zero_add] at y0 y1 y2 y3 y4 y5;have HT:=hid (Jv nd.flatB i y hy);have Af:Hid (Below w3.heap.size w3 (wr.alloc (.cells #[.int .i64 y.h.k,.int .i64 y.h.m,.int .i64 y.h.f,.int .i64 y.h.t,.slice y.h.np y.h.nn y.h.nc,.slice y.h.kp y.h.kn y.h.kc] 26))):=hid (mi.out.alloc (by have:=mi.out.size; omega) _);have r1:(0:Int)≤(i:Int):=by omega
    have r2:(i:Int) < (L:Int):=by omega
    clear hro hy hh hg hgl;generalize kG (nd.flatB.take i)=T at *
    go_wp2_with fail
    go_roundw
    case rel=>exact ⟨i+1,by omega,by go_num,by rw [HT.out]; exact congrArg (Value.int .i64) (by omega),Af⟩
    case measure=>simp [intOf]; omega
   ·have hiL:i=L:=by omega
    have XC:Hid (kG (nd.flatB.take i)=kG nd.flatB):=hid (by rw [hiL,QR.out,List.take_length]);have kN:=hid (HB1.out.trans ((HB3.out.trans (mi.out.mono HB3.out.size)).mono HB1.out.size));have r2:¬ (i:Int) < (L:Int):=by omega
    have HN:=hid hn;clear hiL
    by_cases ht:kG (nd.flatB.take i)≤500
    ·have HF:Hid (Eo nd):=hid (HFW.out HN.out (by rw [← XC.out]; exact ht))
     generalize kG (nd.flatB.take i)=T at *;have ht2:(T:Int)≤500:=by omega
     go_wp2_with fail
     go_ret
     exact ⟨true,rfl,fun _=>HF.out,kN.out⟩
    ·generalize kG (nd.flatB.take i)=T at *
     have ht2:¬ (T:Int)≤500:=by omega
     go_wp2_with fail
     go_ret
     exact ⟨false,rfl,(fun h=>by cases h),kN.out⟩
 ·have hmin:((min nd.flatB.length 201:Nat):Int)=201:=by omega
  rw [hmin];have kN:=hid (HB1.out.trans (hb2.mono HB1.out.size));clear hmin hb2
  go_wp2_with fail
  go_ret
  exact ⟨false,rfl,(fun h=>by cases h),kN.out⟩
mutual
def Br.alb:Br→Br→Bool
 | .mk h ks,b=>h.k == b.h.k && (h.m == b.h.m && (iH h.ns b.h.ns && (ks.length == b.ks.length && pK ks b.ks)))
def pK:List Br→List Br→Bool
 | [],_=>true
 | x :: r,l=>match l with | []=>true | y :: s=>x.alb y && pK r s
end
theorem BK (ks:List Br):∀ js:List Br,(∀ i (h1:i < ks.length) (h2:i < js.length),ks[i].alb js[i]=true)→pK ks js=true:=by
 induction ks with
 | nil=>intro js _; simp [pK]
 | cons x r ih =>
  intro js h
  cases js with
  | nil=>simp [pK]
  | cons y s =>
   simp only [pK,Bool.and_eq_true];exact ⟨h 0 (by simp) (by simp),ih s fun i h1 h2=>h (i+1) (by simpa using h1) (by simpa using h2)⟩
theorem OX (ks:List Br):∀ (js:List Br) (i:Nat) (h1:i < ks.length) (h2:i < js.length),ks[i].alb js[i]=false→pK ks js=false:=by
 induction ks with
 | nil=>intro js i h1; simp at h1
 | cons x r ih =>
  intro js i h1 h2 h
  cases js with
  | nil=>simp at h2
  | cons y s =>
   simp only [pK,Bool.and_eq_false_iff]
   cases i with
   | zero=>exact .inl h
   | succ i=>exact .inr (ih s i (by simpa using h1) (by simpa using h2) h)
theorem MB (a:Br):a.alb a=true:=by
 induction a using Br.ind with
 | hP h ks ih =>
  simp only [Br.alb,Br.h,Br.ks,beq_self_eq_true,Bool.true_and];rw [show iH h.ns h.ns=true from oQ rfl (fun _ _ _=>rfl),Bool.true_and];exact BK ks ks fun i h1 h2=>ih _ (List.getElem_mem h1)
def WC (a b:Br) (w:World) (e:Ending) (w':World):Prop:=e=.returned (.bool (a.alb b))∧Below w.heap.size w w'
set_option maxHeartbeats 8000000 in
theorem zl (a:Br):∀ (b:Br) (w:World),a.Lies w→b.Lies w→a.Few →
  Calls prog 19 #[a.h.val,b.h.val,.bool false] w (WC a b w):=by
 induction a using Br.ind with
 | hP h ks ih =>
  intro b w hl hl' hfit;have b1:Below w.heap.size w (w.alloc (.cells #[.int .i64 h.k,.int .i64 h.m,.int .i64 h.f,.int .i64 h.t,.slice h.np h.nn h.nc,.slice h.kp h.kn h.kc] 26)):=(Below.refl _ _).alloc (Nat.le_refl _) _;have c1:=gX w h 26;obtain ⟨w1,e1⟩:∃ w1,w1=w.alloc (.cells #[.int .i64 h.k,.int .i64 h.m,.int .i64 h.f,.int .i64 h.t,.slice h.np h.nn h.nc,.slice h.kp h.kn h.kc] 26):=⟨_,rfl⟩
  have s1:w1.heap.size=w.heap.size+1:=by rw [e1]; simp
  have c1:bP w1 w.heap.size 0 h:=by rw [e1]; exact c1
  rw [← e1] at b1;have l1:=hl.step _ b1;have hl2:=hl'.step _ b1;obtain ⟨g,js⟩:=b;have b2:Below w1.heap.size w1 (w1.alloc (.cells #[.int .i64 g.k,.int .i64 g.m,.int .i64 g.f,.int .i64 g.t,.slice g.np g.nn g.nc,.slice g.kp g.kn g.kc] 26)):=(Below.refl _ _).alloc (Nat.le_refl _) _;have c2:=gX w1 g 26;obtain ⟨w2,e2⟩:∃ w2,w2=w1.alloc (.cells #[.int .i64 g.k,.int .i64 g.m,.int .i64 g.f,.int .i64 g.t,.slice g.np g.nn g.nc,.slice g.kp g.kn g.kc] 26):=⟨_,rfl⟩
  have s2:w2.heap.size=w1.heap.size+1:=by rw [e2]; simp
  have c2:bP w2 w1.heap.size 0 g:=by rw [e2]; exact c2
  rw [← e2] at b2;have l2:=hl2.step _ b2;have c1:=c1.step (by omega) b2;have l1:=l1.step _ b2;have b12:=b1.trans (b2.mono (by omega));obtain ⟨jW,hkids,hall⟩:=(aO _ _).1 l1;obtain ⟨hnames',hkids',hall'⟩:=(aO _ _).1 l2;simp only [Br.Few,fM] at hfit;simp only [Br.h,Br.ks] at jW hkids hall hnames' hkids' hall' c1 c2 e1 e2 ⊢;have tu:Hid ((Br.mk h ks).alb (.mk g js)=(h.k == g.k && (h.m == g.m && (iH h.ns g.ns && (ks.length == js.length && pK ks js))))):=hid (by simp only [Br.alb,Br.h,Br.ks]);obtain ⟨hk,hm,hf,ht,np,nn,nc,ns,kp,kn,kc⟩:=h;obtain ⟨gk,gm,gf,gt,np',nn',nc',ns',kp',kn',kc'⟩:=g;obtain ⟨Au,hlen,Aw⟩:=hfit;have hkn:kn=ks.length:=hkids.1;have hkn':kn'=js.length:=hkids'.1;subst hkn;subst hkn'
  simp only at Au jW hnames' hkids hkids' tu
  obtain ⟨bn,hbn⟩:∃ b,b=iH ns ns':=⟨_,rfl⟩
  have HI1:=hid (uO np nn nc ns np' nn' nc' ns' w2 jW hnames' (by have:=jW.1; omega));rw [← hbn] at HI1 tu;have HK:=hid hkids;have HK':=hid hkids';have HL:=hid hall;have HL':=hid hall';have HI:=hid ih;have HF2:=hid Aw;have HB:=hid b12;have Og:=hid c1;have HC2:=hid c2;have S1:=hid s1;have S2:=hid s2;have E2:=hid e2;have sW:=hid b12;subst e1;clear jW hnames' hkids hkids' hall hall' ih Aw b12 c1 c2 l1 l2 b1 b2 hl hl2 hl' Au s1 s2 e2 hbn
  show Calls prog 19 #[.agg #[.int .i64 hk,.int .i64 hm,.int .i64 hf,.int .i64 ht,.slice np nn nc,.slice kp ks.length kc],.agg #[.int .i64 gk,.int .i64 gm,.int .i64 gf,.int .i64 gt,.slice np' nn' nc',.slice kp' js.length kc'],.bool false] w _
  by_cases q1:hk=gk
  case neg =>
   have q1b:(hk == gk)=false:=by rw [beq_eq_false_iff_ne]; exact q1
   go_enter func19,ntmps19
   go_wp2_with fail
   rw [← E2.out]
   go_ret
   exact ⟨by rw [show (Br.mk _ ks).alb (.mk _ js)=false from by rw [tu.out,q1b]; rfl]; rfl,sW.out⟩
  subst q1
  by_cases q2:hm=gm
  case neg =>
   have q2b:(hm == gm)=false:=by rw [beq_eq_false_iff_ne]; exact q2
   go_enter func19,ntmps19
   go_wp2_with fail
   rw [← E2.out]
   go_ret
   exact ⟨by rw [show (Br.mk _ ks).alb (.mk _ js)=false from by rw [tu.out,q2b]; simp]; rfl,sW.out⟩
  subst q2
  go_enter func19,ntmps19
  go_wp2_with fail
  rw [← E2.out];refine HI1.out.mono ?_
  rintro e w3 ⟨rfl,hb3⟩;have HB3:=hid hb3;have hs2:=HB.out.size;have hz3:=hb3.size;have hz1:=S1.out;have hz2:=S2.out;obtain ⟨_,_,a2,a3,_,a5⟩:=(Og.out.step (by omega) hb3).box;obtain ⟨_,_,d2,d3,_,d5⟩:=(HC2.out.step (by omega) hb3).box;rw [hz1] at d5 d2 d3;have VN:=hid (HB.out.trans (hb3.mono HB.out.size));clear hb3
  cases bn
  case false =>
   go_wp2_with fail
   go_ret
   exact ⟨by rw [show (Br.mk _ ks).alb (.mk _ js)=false from by rw [tu.out]; simp]; rfl,VN.out⟩
  by_cases q4:ks.length=js.length
  case neg =>
   have q4b:((ks.length:Int) == (js.length:Int))=false:=by rw [beq_eq_false_iff_ne]; omega
   have q4c:(ks.length == js.length)=false:=by rw [beq_eq_false_iff_ne]; exact q4
   have q4d:¬ (ks.length:Int)=(js.length:Int):=by omega
   go_wp2_with fail
   go_ret
   exact ⟨by rw [show (Br.mk _ ks).alb (.mk _ js)=false from by rw [tu.out,q4c]; simp]; rfl,VN.out⟩
  have SC:=hid q4;rw [← q4] at d5;clear q4
  go_wp2_with fail
  go_loopw [7] (fun iv wr=>∃ i:Nat,i≤ks.length∧iv=.int .i64 i∧Hid (∀ j (h1:j < ks.length) (h2:j < js.length),j < i→ks[j].alb js[j]=true)∧Hid (Below w3.heap.size w3 wr)) (fun iv _=>ks.length - (intOf iv).toNat)
  case atStart=>exact ⟨0,by omega,rfl,hid (fun j _ _ h=>by omega),hid (Below.refl _ _)⟩
  case round =>
   obtain ⟨i,hi,rfl,yF,mi⟩:=hrel;have hbe:=mi.out;have t5:=(hbe.cell (p:=⟨w.heap.size,_,none⟩) (by show w.heap.size < w3.heap.size; omega)).trans a5;have u5:=(hbe.cell (p:=⟨w.heap.size+1,_,none⟩) (by show w.heap.size+1 < w3.heap.size; omega)).trans d5;have hz:=hbe.size;clear a2 a3 d2 d3
   by_cases hlt:i < ks.length
   ·have hlt':i < js.length:=by rw [← SC.out]; exact hlt
    have nO:=HB3.out.trans (hbe.mono hz3);obtain ⟨bx,ox,rfl,_,hbx,ui⟩:=(HK.out.step nO).2.resolve_left (by omega);obtain ⟨bY,oY,rfl,_,Gn,Az⟩:=(HK'.out.step nO).2.resolve_left (by omega);obtain ⟨x0,x1,x2,x3,x4,x5⟩:=ui i hlt;obtain ⟨y0,y1,y2,y3,y4,y5⟩:=Az i hlt';have hmem:=List.getElem_mem hlt;have hmem':=List.getElem_mem hlt';have HX:=hid (HI.out ks[i] hmem js[i] wr.drew (((HL.out _ hmem).step _ nO).step _ (Below.refl _ _).drew) (((HL'.out _ hmem').step _ nO).step _ (Below.refl _ _).drew) (HF2.out _ hmem));obtain ⟨bi,hbi⟩:∃ b,b=ks[i].alb js[i]:=⟨_,rfl⟩
    unfold WC at HX;rw [← hbi] at HX;have YM:=hid hbi;have hr1:(0:Int)≤(i:Int):=by omega
    have hr2:(i:Int) < (ks.length:Int):=by omega
    have YN:Hid (bi=true→∀ j (h1:j < ks.length) (h2:j < js.length),j < i+1→ks[j].alb js[j]=true):=hid fun hb j h1 h2 hj=>by
     rcases Nat.lt_or_ge j i with h3 | h3
     ·exact yF.out j h1 h2 h3
     ·obtain rfl:j=i:=by omega
      rw [← YM.out]; exact hb
    have HNO:Hid (bi=false→pK ks js=false):=hid fun hb=>OX ks js i hlt hlt' (by rw [← YM.out]; exact hb)
    have hrl:(i:Int) < (js.length:Int):=by omega
    clear ui Az hmem hmem' hbe nO a5 d5 HK HK' HL HL' HI HF2 HI1 Og HC2 S1 S2 E2 hbi YM yF;generalize ks[i]=x at *;generalize js[i]=y at *;simp only [Hd.val] at HX
    go_upto_region 8 with (fail)
    go_still_tail 11,(by kernel_rfl)
    change wpList _ _ _ _ _ wr.drew
    go_wp2_with fail
    refine HX.out.mono ?_
    rintro e w4 ⟨rfl,hb4⟩;have hb4':Below wr.heap.size wr w4:=((Below.refl _ _).drew).trans hb4;have HB4:=hid (mi.out.trans (hb4'.mono hz));have YO:=hid (HB.out.trans ((HB3.out.trans (HB4.out.mono HB3.out.size)).mono HB.out.size));clear hb4 hb4' HX
    cases bi
    ·go_wp2_with fail
     go_ret
     exact ⟨by rw [show (Br.mk _ ks).alb (.mk _ js)=false from by rw [tu.out,HNO.out (by first | rfl | trivial)]; simp]; rfl,YO.out⟩
    ·go_wp2_with fail
     go_roundw
     case rel=>exact ⟨i+1,by omega,by go_num,hid (YN.out (by first | rfl | trivial)),HB4⟩
     case measure=>simp [intOf]; omega
   ·have kN:=hid (HB.out.trans ((HB3.out.trans (hbe.mono hz3)).mono HB.out.size))
    have YP:Hid (pK ks js=true):=hid (BK ks js fun j h1 h2=>yF.out j h1 h2 (by omega));clear hbe
    go_wp2_with fail
    go_ret
    exact ⟨by rw [show (Br.mk _ ks).alb (.mk _ js)=true from by rw [tu.out,YP.out,SC.out]; simp]; rfl,kN.out⟩
open Go.ChangeShapes Go.WideShapes Go.ChangeAt Go.RowKit Go.Deep
set_option maxRecDepth 100000
theorem wu {H:Type} {enc:TypeId × Value→H} {W:World} {fuel:Nat} {cs:List Value} {x:DataW H × List MemPlace}
  (h:DataW.trod enc prog W 0 (fun _=>true) true fuel 23 cs=some x):∃ q n cap l,cs=[.slice q n cap]∧n≤maxLen∧InV mkI W q n cap l∧∀ x ∈ l,(Lit.int .i64 x).wf=true:=by
 rcases open_slice underlying23 h with ⟨hcs,_⟩ | ⟨a,len,cap,m,nn,D,Pl,hcs,_,hl,hm,hmm,_,hel⟩
 ·exact ⟨none,0,0,[],hcs,by omega,⟨rfl,.inl rfl⟩,fun x hx=>by cases hx⟩
 ·rw [if_pos rfl] at hmm
  subst hmm
  cases len with
  | zero=>exact ⟨some a,0,m,[],hcs,by omega,⟨rfl,.inl rfl⟩,fun x hx=>by cases hx⟩
  | succ j =>
   have hce:prog.cellsOf 3=1:=by kernel_rfl
   have each:∀ i,i < m→∃ x:Int,W.cell? (a.add i)=some (.int .i64 x)∧(Lit.int .i64 x).wf=true:=fun i hi=>by
    obtain ⟨cs',h1,h2⟩:=hel i hi;rw [hce,Nat.mul_one] at h1;obtain ⟨_,hlen,hcell⟩:=World.cells?_some h1;obtain ⟨x,hx,_,hw⟩:=DataW.trod_int underlying3 h2;have c0:=hcell 0 (by omega);rw [hx] at c0;have ha:(a.add i).add 0=a.add i:=by unfold Addr.add; simp
    rw [ha] at c0;exact ⟨x,by simpa using c0,hw⟩
   obtain ⟨b,off,spot⟩:=a;obtain ⟨x0,h0,_⟩:=each 0 (by omega);have hspot:spot=none:=by simpa [Addr.add] using World.cell?_spot h0
   subst hspot;have hadd:∀ k,(⟨b,off,none⟩:Addr).add k=⟨b,off+k,none⟩:=fun k=>by
    unfold Addr.add; split <;> simp_all
   obtain ⟨q,hq⟩:=choose_lt each;refine ⟨some ⟨b,off,none⟩,j+1,m,(List.range (j+1)).map q,hcs,by omega,⟨by simp,.inr ⟨b,off,rfl,hl,World.block_lt_of_cell? W _ h0,?_⟩⟩,fun x hx=>?_⟩
   rotate_left
   ·obtain ⟨i,hi,rfl⟩:=List.mem_map.1 hx
    exact (hq i (by simp at hi; omega)).2
   intro i hi;have hi2:i < m:=by simp at hi; omega
   have c0:=(hq i hi2).1;simp only [List.getElem_map,List.getElem_range];rw [hadd] at c0;exact c0
def Wfs (b:Br):Prop:=∀ x ∈ aS b.flatB,(Lit.int .i64 x).wf=true
theorem Fv {h:Hd} {ks:List Br} (h1:∀ x ∈ h.ns,(Lit.int .i64 x).wf=true) (h2:∀ k ∈ ks,Wfs k):Wfs (.mk h ks):=by
 intro x hx;simp only [Br.flatB,aS,List.flatMap_cons,List.mem_append] at hx
 rcases hx with hx | hx
 ·exact h1 x hx
 ·have key:∀ l:List Br,(∀ k ∈ l,Wfs k)→x ∈ (aB l).flatMap (fun y=>y.h.ns)→(Lit.int .i64 x).wf=true:=by
   intro l
   induction l with
   | nil=>intro _ hm; simp [aB] at hm
   | cons b r ih =>
    intro hl hm;simp only [aB,List.flatMap_append,List.mem_append] at hm
    rcases hm with hm | hm
    ·exact hl b (by simp) x hm
    ·exact ih (fun k hk=>hl k (by simp [hk])) hm
  exact key ks h2 hx
theorem FI {H:Type} {enc:TypeId × Value→H} {W:World}:∀ (fuel:Nat) (cs:List Value) (x:DataW H × List MemPlace),
  DataW.trod enc prog W 0 (fun _=>true) true fuel 26 cs=some x→∃ b:Br,(b.Lies W∧Wfs b)∧cs=[.int .i64 b.h.k,.int .i64 b.h.m,.int .i64 b.h.f,.int .i64 b.h.t,.slice b.h.np b.h.nn b.h.nc,.slice b.h.kp b.h.kn b.h.kc]:=by
 intro fuel
 induction fuel using Nat.strongRecOn with
 | _ fuel ih =>
  intro cs x h;obtain ⟨xs,n,rfl,_,hl,hlen,hf⟩:=DataW.trod_struct underlying26 h;have VO:prog.cellsOf 26=6:=by kernel_rfl
  have hc3:prog.cellsOf 3=1:=by kernel_rfl
  have hc22:prog.cellsOf 23=1:=by kernel_rfl
  have YQ:prog.cellsOf 24=1:=by kernel_rfl
  rw [VO] at hl
  match cs,hl,xs,hlen with
  | [c0,c1,c2,c3,c4,c5],_,[y0,y1,y2,y3,y4,y5],_ =>
   have g0:=hf 0 _ rfl;have g1:=hf 1 _ rfl;have g2:=hf 2 _ rfl;have g3:=hf 3 _ rfl;have g4:=hf 4 _ rfl;have g5:=hf 5 _ rfl
   simp [hc3,hc22,YQ] at g0 g1 g2 g3 g4 g5
   obtain ⟨i0,e0,_,_⟩:=DataW.trod_int underlying3 g0;obtain ⟨i1,e1,_,_⟩:=DataW.trod_int underlying3 g1;obtain ⟨i2,e2,_,_⟩:=DataW.trod_int underlying3 g2;obtain ⟨i3,e3,_,_⟩:=DataW.trod_int underlying3 g3;obtain ⟨np,nn,nc,ns,e4,hnn,hin,hnw⟩:=wu g4;simp only [List.cons.injEq,and_true] at e0 e1 e2 e3 e4;subst e0 e1 e2 e3 e4
   rcases DataW.trod_slice underlying24 g5 with ⟨e5,_⟩ | ⟨a,len,cap,elems,rest,n',hn',e5,_,_,hle,_,hel,hat,_,_⟩
   ·simp only [List.cons.injEq,and_true] at e5
    subst e5;exact ⟨.mk ⟨i0,i1,i2,i3,np,nn,nc,ns,none,0,0⟩ [],⟨(aO _ _).2 ⟨hin,⟨rfl,.inl rfl⟩,fun x hx=>by cases hx⟩,Fv hnw (fun k hk=>by cases hk)⟩,rfl⟩
   ·simp only [List.cons.injEq,and_true] at e5
    subst e5
    cases len with
    | zero=>exact ⟨.mk ⟨i0,i1,i2,i3,np,nn,nc,ns,some a,0,cap⟩ [],⟨(aO _ _).2 ⟨hin,⟨rfl,.inl rfl⟩,fun x hx=>by cases hx⟩,Fv hnw (fun k hk=>by cases hk)⟩,rfl⟩
    | succ j =>
     have each:∀ i,i < j+1→∃ b:Br,(b.Lies W∧Wfs b)∧W.cell? ((a.add (i * 6)).add 0)=some (.int .i64 b.h.k)∧W.cell? ((a.add (i * 6)).add 1)=some (.int .i64 b.h.m)∧W.cell? ((a.add (i * 6)).add 2)=some (.int .i64 b.h.f)∧W.cell? ((a.add (i * 6)).add 3)=some (.int .i64 b.h.t)∧W.cell? ((a.add (i * 6)).add 4)=some (.slice b.h.np b.h.nn b.h.nc)∧W.cell? ((a.add (i * 6)).add 5)=some (.slice b.h.kp b.h.kn b.h.kc):=fun i hi=>by
      have h1:=hat i hi;rw [VO,List.getElem?_eq_getElem (by omega)] at h1;obtain ⟨cs',h2,h3⟩:=Option.bind_eq_some_iff.1 h1;obtain ⟨b,hb,rfl⟩:=ih n' (by omega) cs' _ h3;obtain ⟨_,aaJ,hcell⟩:=World.cells?_some h2;refine ⟨b,hb,?_,?_,?_,?_,?_,?_⟩
      ·simpa using hcell 0 (by omega)
      ·simpa using hcell 1 (by omega)
      ·simpa using hcell 2 (by omega)
      ·simpa using hcell 3 (by omega)
      ·simpa using hcell 4 (by omega)
      ·simpa using hcell 5 (by omega)
     obtain ⟨b,off,spot⟩:=a;obtain ⟨_,_,h0,_⟩:=each 0 (by omega);have hspot:spot=none:=by simpa [Addr.add] using World.cell?_spot h0
     subst hspot;have hadd:∀ k,(⟨b,off,none⟩:Addr).add k=⟨b,off+k,none⟩:=fun k=>by
      unfold Addr.add; split <;> simp_all
     have VP:∀ o k,(⟨b,o,none⟩:Addr).add k=⟨b,o+k,none⟩:=fun o k=>by
      unfold Addr.add; split <;> simp_all
     have ack:Inhabited Br:=⟨.mk ⟨0,0,0,0,none,0,0,[],none,0,0⟩ []⟩;obtain ⟨q,hq⟩:=choose_lt each;refine ⟨.mk ⟨i0,i1,i2,i3,np,nn,nc,ns,some ⟨b,off,none⟩,j+1,cap⟩ ((List.range (j+1)).map q),⟨(aO _ _).2 ⟨hin,⟨by simp [Br.h,Br.ks],.inr ⟨b,off,rfl,hle,World.block_lt_of_cell? W _ h0,?_⟩⟩,?_⟩,Fv hnw ?_⟩,rfl⟩
     ·intro i hi
      have hi2:i < j+1:=by simpa [Br.ks] using hi
      obtain ⟨_,k0,k1,k2,k3,k4,k5⟩:=hq i hi2;simp only [Br.ks,List.getElem_map,List.getElem_range];rw [hadd,VP] at k0 k1 k2 k3 k4 k5;exact ⟨k0,k1,k2,k3,k4,k5⟩
     ·intro x hx
      simp only [Br.ks] at hx;obtain ⟨i,hi,rfl⟩:=List.mem_map.1 hx;exact (hq i (by simpa using hi)).1.1
     ·intro x hx
      obtain ⟨i,hi,rfl⟩:=List.mem_map.1 hx;exact (hq i (by simpa using hi)).1.2
theorem vH {H:Type} {enc:TypeId × Value→H} {W:World} {base:Nat} {v:Value} {d:DataW H} {p:List MemPlace} (hv:Value.okWide prog W .any base 26 v)
  (h:DataW.Trod enc prog W 0 (fun _=>true) true 26 v d p):∃ b:Br,v=b.h.val∧(b.Lies W∧Wfs b):=by
 have hu:∃ fs,prog.underlying 26=some (.struct fs):=⟨_,underlying26⟩
 obtain ⟨fs,hu⟩:=hu;obtain ⟨cs,rfl,hsz⟩:=okWide_struct hu hv;obtain ⟨fuel,hf⟩:=h;obtain ⟨b,hb,hcs⟩:=FI fuel _ _ hf;refine ⟨b,?_,hb⟩
 have:cs.toList=[.int .i64 b.h.k,.int .i64 b.h.m,.int .i64 b.h.f,.int .i64 b.h.t,.slice b.h.np b.h.nn b.h.nc,.slice b.h.kp b.h.kn b.h.kc]:=by simpa [Value.cells] using hcs
 show Value.agg cs=Value.agg _
 congr 1
 exact Array.toList_inj.1 this
theorem LH {H:Type} {enc:TypeId × Value→H} {W:World} {base:Nat} {v:Value} {d:DataW H} {p:List MemPlace} (hv:Value.okWide prog W .any base 23 v)
  (h:DataW.Trod enc prog W 0 (fun _=>true) true 23 v d p):∃ q n cap l,v=.slice q n cap∧n≤maxLen∧InV mkI W q n cap l∧∀ x ∈ l,(Lit.int .i64 x).wf=true:=by
 obtain ⟨p',n,c,rfl⟩:=okWide_slice underlying23 hv;obtain ⟨fuel,hf⟩:=h;obtain ⟨q,n',cap,l,hcs,h1,h2,h3⟩:=wu hf
 simp [Value.cells] at hcs
 obtain ⟨rfl,rfl,rfl⟩:=hcs;exact ⟨_,_,_,l,rfl,h1,h2,h3⟩
def MZ (W:World) (q:Option Addr) (n c:Nat) (dv:Nat→Bool):Prop:=n=0∨∃ b off,q=some ⟨b,off,none⟩∧n≤c∧b < W.heap.size∧∀ i,i < n→W.cell? ⟨b,off+i * 5+4,none⟩=some (.bool (dv i))
theorem Ju {H:Type} {enc:TypeId × Value→H} {W:World} {base:Nat} {v:Value} {d:DataW H} {p:List MemPlace} (hv:Value.okWide prog W .any base 27 v)
  (h:DataW.Trod enc prog W 0 (fun _=>true) true 27 v d p):∃ (q:Option Addr) (n cap:Nat) (dv:Nat→Bool),v=.slice q n cap∧n≤maxLen∧MZ W q n cap dv:=by
 obtain ⟨p',n,c,rfl⟩:=okWide_slice underlying27 hv;obtain ⟨fuel,hf⟩:=h;have hce:prog.cellsOf 41=5:=by kernel_rfl
 rcases open_slice underlying27 hf with ⟨hcs,_⟩ | ⟨a,len,cap,m,nn,D,Pl,hcs,_,hl,hm,hmm,_,hel⟩
 ·simp [Value.cells] at hcs
  obtain ⟨rfl,rfl,rfl⟩:=hcs;exact ⟨none,0,0,fun _=>false,rfl,by omega,.inl rfl⟩
 ·simp [Value.cells] at hcs
  obtain ⟨rfl,rfl,rfl⟩:=hcs;rw [if_pos rfl] at hmm;subst hmm
  cases n with
  | zero=>exact ⟨some a,0,m,fun _=>false,rfl,by omega,.inl rfl⟩
  | succ k =>
   have each:∀ i,i < m→∃ x:Bool,W.cell? ((a.add (i * 5)).add 4)=some (.bool x)∧∃ z,W.cell? ((a.add (i * 5)).add 0)=some z:=fun i hi=>by
    obtain ⟨cs',h1,h2⟩:=hel i hi;rw [hce] at h1;obtain ⟨_,hlen,hcell⟩:=World.cells?_some h1;obtain ⟨xs,k',_,_,_,hxl,hf'⟩:=DataW.trod_struct underlying41 h2
    match cs',hlen,xs,hxl with
    | [v0,v1,v2,v3,v4],_,[y0,y1,y2,y3,y4],_ =>
     have g4:=hf' 4 _ rfl;have z3:prog.cellsOf 3=1:=by kernel_rfl
     have z4:prog.cellsOf 4=1:=by kernel_rfl
     simp [z3,z4] at g4
     obtain ⟨i4,e4,_⟩:=DataW.trod_bool underlying4 g4;simp only [List.cons.injEq,and_true] at e4;subst e4;exact ⟨i4,by simpa using hcell 4 (by omega),v0,by simpa using hcell 0 (by omega)⟩
   obtain ⟨b,off,spot⟩:=a;obtain ⟨x0,_,z0,h0⟩:=each 0 (by omega);have hspot:spot=none:=by simpa [Addr.add] using World.cell?_spot h0
   subst hspot;have hadd:∀ o k,(⟨b,o,none⟩:Addr).add k=⟨b,o+k,none⟩:=fun o k=>by
    unfold Addr.add; split <;> simp_all
   obtain ⟨q,hq⟩:=choose_lt each;refine ⟨some ⟨b,off,none⟩,k+1,m,q,rfl,by omega,.inr ⟨b,off,rfl,hl,World.block_lt_of_cell? W _ h0,fun i hi=>?_⟩⟩
   have:=(hq i (by omega)).1
   rw [hadd,hadd] at this;exact this
end Go.Proofs.YtmpmfamiegpmgaaGreatDoor
