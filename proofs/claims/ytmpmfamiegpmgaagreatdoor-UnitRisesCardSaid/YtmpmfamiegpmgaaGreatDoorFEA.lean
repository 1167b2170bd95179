/-
  The law UnitRises, walked.; The law UnitRises, as its row wants it.
-/
import Derived.Test.YtmpmfamiegpmgaaGreatDoorFCE
import Derived.Test.YtmpmfamiegpmgaaGreatDoorFCD
import Derived.Deep.Cut
namespace Go.Proofs.YtmpmfamiegpmgaaGreatDoor
open Go.RowKit
set_option maxRecDepth 20000
set_option linter.unusedVariables false
set_option linter.unusedSimpArgs false

set_option maxHeartbeats 40000000 in
theorem rises_any (fs:List FileV) (p:Option Addr) (n c:Nat) (W:World) (hn63:n≤9223372036854775807) (h:FIn W p n c fs) (hk:Kw W) :
  Calls Tryz.prog 11 #[.slice p n c] W fun e w'=>e=.returned (.bool true)∧Below W.heap.size W w':=by
 have HF:=Lib.hid (few37_any fs p n c W h hn63)
 have HI:=Lib.hid h
 have HK:=Lib.hid hk
 have HA:=Lib.hid (fun w=>alive10_any w)
 clear h hk hn63
 go_enter Tryz.func11,Tryz.ntmps11
 go_wp2_with fail
 refine HF.out.mono ?_
 rintro e w1 ⟨b,rfl,hfew,d,rfl⟩
 have hb1:Below W.heap.size W (W.drewN d):=below_drewN (Below.refl _ _) d
 have HB1:=Lib.hid hb1
 have HFW:=Lib.hid hfew
 clear hb1 hfew HF
 cases b
 ·have H8:=Lib.hid (HA.out (W.drewN d) (HK.out.step HB1.out))
  go_wp2_with fail
  refine H8.out.mono ?_
  rintro e w2 ⟨rfl,hb2⟩
  have HB2:=Lib.hid (HB1.out.trans (hb2.mono HB1.out.size))
  clear hb2 H8
  go_wp2_with fail
  go_ret
  exact ⟨rfl,HB2.out⟩
 ·have HFF:Hid (FewF fs):=Lib.hid (HFW.out rfl)
  obtain ⟨t,ht⟩:=twice_ex (fs.map (·.1))
  have hi1:FIn (W.drewN d) p n c fs:=by
   obtain ⟨h1,h2⟩:=HI.out
   exact ⟨h1,h2.imp id fun ⟨b,o,h3,h4,h5,h6⟩=>⟨b,o,h3,h4,h5,fun i f hi=>h6 i f hi⟩⟩
  have hlen:n=fs.length:=HI.out.1
  have HLD:=Lib.hid (load_any fs t p n c (W.drewN d) (HK.out.step HB1.out) hi1 (by have:=HFF.out.len; omega) (by have:=HFF.out.sum; omega) (fun f hf=>by have:=HFF.out.each f hf; omega) (fun f hf=>by have:=HFF.out.each f hf; omega) ht)
  have HN:Hid (n=fs.length):=Lib.hid hlen
  clear ht hi1 hlen HFW
  generalize W.drewN d=w1 at *
  go_wp2_with fail
  refine HLD.out.mono ?_
  rintro e w2 ⟨hb2,hcase⟩
  have hz1:=HB1.out.size
  have HB2:=Lib.hid (HB1.out.trans (hb2.mono hz1))
  have hz2:=hb2.size
  have hcase2:(∃ k f a,e=.returned (.tuple #[.pointer none,.agg #[.int .i64 k,.int .i64 f,.int .i64 a]]))∨∃ pu gp qs nds,Loaded w1.heap.size fs GoodF pu gp qs nds w2∧e=.returned (.tuple #[.pointer (some ⟨pu,0,none⟩),.agg #[.int .i64 0,.int .i64 0,.int .i64 0]]):=by
   rcases hcase with ⟨k,f,_,_,he⟩ | ⟨_,i,f,a,c,_,_,_,_,he⟩ | ⟨_,pu,gp,qs,nds,h1,he⟩
   ·exact .inl ⟨_,_,_,he⟩
   ·exact .inl ⟨_,_,_,he⟩
   ·exact .inr ⟨_,_,_,_,h1,he⟩
  clear hcase hb2 HLD
  rcases hcase2 with ⟨k,f,a,rfl⟩ | ⟨pu,gp,qs,nds,hld,rfl⟩
  ·obtain ⟨w3,hw3⟩:∃ w3,w3=w2.alloc (.cells #[.int .i64 k,.int .i64 f,.int .i64 a] 65):=⟨_,rfl⟩
   have hb3:Below W.heap.size W w3:=by rw [hw3]; exact HB2.out.alloc (by omega) _
   have H3:=Lib.hid (occs_nil w3)
   have H8:=Lib.hid (HA.out w3 (HK.out.step hb3))
   have HB3:=Lib.hid hb3
   have HW3:=Lib.hid hw3
   clear hb3 hw3
   go_wp2_with fail
   rw [← HW3.out]
   refine H3.out.mono ?_
   rintro e w4 ⟨rfl,rfl⟩
   go_wp2_with fail
   refine wp_loop_rounds 1 ?_
   rw [rounds_succ]
   go_wp2_with fail
   refine H8.out.mono ?_
   rintro e w5 ⟨rfl,hb5⟩
   have HB5:=Lib.hid (HB3.out.trans (hb5.mono HB3.out.size))
   clear hb5 H8
   go_wp2_with fail
   go_ret
   exact ⟨rfl,HB5.out⟩
  ·obtain ⟨w3,hw3⟩:∃ w3,w3=w2.alloc (.cells #[.int .i64 0,.int .i64 0,.int .i64 0] 65):=⟨_,rfl⟩
   have hb23:Below w2.heap.size w2 w3:=by rw [hw3]; exact (Below.refl _ _).alloc (Nat.le_refl _) _
   have hb3:Below W.heap.size W w3:=HB2.out.trans (hb23.mono (by omega))
   have hq:=hld.qsF
   have hN:(allOs qs).length≤1000000:=by have:=hq.total; have:=HFF.out.sum; omega
   have HOC:=Lib.hid (occs_any w3 pu gp qs (hld.u.step hb23) (fun q hq=>by
    obtain ⟨i,hi,rfl⟩:=List.getElem_of_mem hq
    obtain ⟨nd,hnd⟩:∃ nd,nds[i]?=some nd:=⟨_,List.getElem?_eq_getElem (by rw [hld.lenn]; exact hi)⟩
    exact ((hld.pt i _ nd (List.getElem?_eq_getElem hi) hnd).pv).step hb23) (by omega) (by rw [hld.len]; have:=HFF.out.len; omega))
   have HB3:=Lib.hid hb3
   have HB23:=Lib.hid hb23
   have HW3:=Lib.hid hw3
   have HLD:=Lib.hid hld
   have HQ:=Lib.hid hq
   have HNN:=Lib.hid hN
   clear hb3 hb23 hw3 hld hq
   go_wp2_with fail
   rw [← HW3.out]
   refine HOC.out.mono ?_
   rintro e w4 ⟨v,rfl,hrow,hb4⟩
   have hz3:=HB3.out.size
   have hz4:=hb4.size
   have HB4:=Lib.hid (HB3.out.trans (hb4.mono hz3))
   have HB24:=Lib.hid (HB23.out.trans (hb4.mono HB23.out.size))
   have HROW:=Lib.hid hrow
   clear hb4 hrow HOC
   obtain ⟨sp0,sc0,rfl⟩:=own_shape HROW.out
   obtain ⟨N,hNe⟩:∃ N,N=(allOs qs).length:=⟨_,rfl⟩
   rw [← hNe] at HROW hN ⊢
   have HNE:=Lib.hid hNe
   clear hNe HNN
   go_wp2_with fail
   go_loopw [25] (fun iv wr=>∃ i:Nat,i≤N∧iv=.int .i64 i∧Hid (Below w4.heap.size w4 wr)) (fun iv _=>N - (intOf iv).toNat)
   case atStart=>exact ⟨0,by omega,rfl,Lib.hid (Below.refl _ _)⟩
   case round =>
    obtain ⟨i,hi,rfl,HBr⟩:=hrel
    have hzr:=HBr.out.size
    by_cases hlt:i < N
    ·obtain ⟨g,cap,hv,hg1,hg2,hg3,hg4⟩:=own_pos HROW.out (by omega)
     obtain ⟨rfl,rfl⟩:sp0=some ⟨g,0,none⟩∧sc0=cap:=by
      simp only [Value.slice.injEq,true_and] at hv
      exact hv
     obtain ⟨u,hu⟩:∃ u,(allOs qs)[i]?=some u:=⟨_,List.getElem?_eq_getElem (by rw [← HNE.out]; exact hlt)⟩
     have hoc:=(ocells_at HROW.out i u hu).ext (fun r _=>HBr.out.cell (p:=⟨g,i * 5+r,none⟩) hg2)
     obtain ⟨k,q,j,hqk,hqj,hij⟩:=allOs_at qs i u hu
     obtain ⟨hosf,hfk,_⟩:=HQ.out.os k q hqk
     have hfile:=hosf.file u (List.mem_of_getElem? hqj)
     have hrng:=hosf.rng u (List.mem_of_getElem? hqj)
     have hkl:k < fs.length:=(List.getElem?_eq_some_iff.1 hfk).1
     obtain ⟨hn1,h0 | ⟨b,o,rfl,hc,hbl,hat⟩⟩:=HI.out
     ·have:=HN.out; omega
     have hbw:=HB4.out.trans (HBr.out.mono HB4.out.size)
     have ctx:=(hbw.cell (p:=⟨b,o+k * 2+1,none⟩) hbl).trans (hat k _ hfk).2
     have hkn:k < n:=by have:=HN.out; omega
     have HIT1:=Lib.hid (fun W' hb=>at_hit HLD.out (by rw [← HNE.out]; exact hN) i u hu u.at_ (Int.le_refl _) (by omega) W' hb)
     have HIT2:=Lib.hid (fun W' hb=>at_hit HLD.out (by rw [← HNE.out]; exact hN) i u hu (u.end_ - 1) (by omega) (by omega) W' hb)
     have HPREV:Hid (∀ ip,i=ip+1→∃ v,OccAt wr g (ip * 5) v∧Behind v u):=Lib.hid fun ip hip=>by
      obtain ⟨v,hv⟩:∃ v,(allOs qs)[ip]?=some v:=⟨_,List.getElem?_eq_getElem (by rw [← HNE.out]; omega)⟩
      refine ⟨v,(ocells_at HROW.out ip v hv).ext (fun r _=>HBr.out.cell (p:=⟨g,ip * 5+r,none⟩) hg2),?_⟩
      have hp:=List.pairwise_iff_getElem.1 HQ.out.pair ip i (by rw [← HNE.out]; omega) (by rw [← HNE.out]; exact hlt) (by omega)
      obtain ⟨h1,e1⟩:=List.getElem?_eq_some_iff.1 hv
      obtain ⟨h2,e2⟩:=List.getElem?_eq_some_iff.1 hu
      rw [e1,e2] at hp
      exact hp
     obtain ⟨fl,at_,end_,sp,dc⟩:=u
     simp only at hfile hrng HIT1 HIT2 HPREV
     subst hfile
     obtain ⟨c0,c1,c2,c3,c4⟩:=hoc
     simp only at c0 c1 c2 c3 c4
     obtain ⟨⟨⟨nm,tx⟩,ph,pf,po,pm⟩,os⟩:=q
     simp only at ctx hrng
     have t1:¬ (k:Int) < 0:=by omega
     have t2:¬ (n:Int)≤(k:Int):=by omega
     have t2n:¬ n≤k:=by omega
     have t3:¬ end_≤at_:=by omega
     have t4:¬ (tx.size:Int) < end_:=by omega
     have r1:(0:Int)≤(k:Int):=by omega
     have r2:(k:Int) < (n:Int):=by omega
     obtain ⟨W6,hW6⟩:∃ W6,W6=wr.alloc (.cells #[.int .i64 (k:Int),.int .i64 at_,.int .i64 end_,.int .i64 sp,.bool dc] 41):=⟨_,rfl⟩
     have hb6:Below wr.heap.size wr W6:=by rw [hW6]; exact (Below.refl _ _).alloc (Nat.le_refl _) _
     have hz6:wr.heap.size < W6.heap.size:=by rw [hW6]; simp
     have hbc:=Lib.cell_of_heap (heap_alloc_new wr (.cells #[.int .i64 (k:Int),.int .i64 at_,.int .i64 end_,.int .i64 sp,.bool dc] 41))
     rw [← hW6] at hbc
     have b0:W6.cell? ⟨wr.heap.size,0,none⟩=some (.int .i64 (k:Int)):=hbc 0
     have b1:W6.cell? ⟨wr.heap.size,1,none⟩=some (.int .i64 at_):=hbc 1
     have b2:W6.cell? ⟨wr.heap.size,2,none⟩=some (.int .i64 end_):=hbc 2
     have ctx6:W6.cell? ⟨b,o+k * 2+1,none⟩=some (.string tx):=(hb6.cell (p:=⟨b,_,none⟩) (Nat.lt_of_lt_of_le hbl hbw.size)).trans ctx
     have HBX:Hid (∀ W,Below W6.heap.size W6 W→W.cell? ⟨wr.heap.size,0,none⟩=some (.int .i64 (k:Int))∧W.cell? ⟨wr.heap.size,1,none⟩=some (.int .i64 at_)∧W.cell? ⟨wr.heap.size,2,none⟩=some (.int .i64 end_)):=Lib.hid fun W hW =>
      ⟨(hW.cell (p:=⟨wr.heap.size,0,none⟩) hz6).trans b0,(hW.cell (p:=⟨wr.heap.size,1,none⟩) hz6).trans b1,(hW.cell (p:=⟨wr.heap.size,2,none⟩) hz6).trans b2⟩
     have HB26:Hid (Below w2.heap.size w2 W6):=Lib.hid (HB24.out.trans ((HBr.out.trans (hb6.mono hzr)).mono HB24.out.size))
     have HB46:Hid (Below w4.heap.size w4 W6):=Lib.hid (HBr.out.trans (hb6.mono hzr))
     have hgr:g < wr.heap.size:=Nat.lt_of_lt_of_le hg2 hzr
     have HPREV6:Hid (∀ ip,i=ip+1→∃ v,OccAt W6 g (ip * 5) v∧Behind v ⟨(k:Int),at_,end_,sp,dc⟩):=Lib.hid fun ip hip=>by
      obtain ⟨v,h1,h2⟩:=HPREV.out ip hip
      exact ⟨v,h1.ext (fun r _=>hb6.cell (p:=⟨g,_,none⟩) hgr),h2⟩
     have HW6:=Lib.hid hW6
     have hrng2:at_ < end_∧0≤at_∧end_≤1000000:=by
      have:=(HFF.out.each _ (List.mem_of_getElem? hfk)).2
      simp only at this
      omega
     clear hu hqk hqj hij hosf hfk hrng hkl hn1 hat hbw ctx hbc hW6 hb6 HPREV hv hkn
     go_upto_region 8 with (fail)
     rw [← HW6.out]
     go_quiet (fail)
     go_wp2_with fail
     by_cases hi0:i=0
     ·have ti:¬ (0:Int) < (i:Int):=by omega
      have tin:¬ 0 < i:=by omega
      clear hi0 HPREV6
      go_quiet (fail)
      go_wp2_with fail
      refine (HIT1.out _ (by first | exact HB26.out.trans ((below_drewN (Below.refl _ _) _).mono HB26.out.size) | exact HB26.out.trans ((below_drewN (below_drewN (Below.refl _ _) _) _).mono HB26.out.size))).mono ?_
      rintro y w7 ⟨rfl,hb7⟩
      have hb67:Below W6.heap.size W6 w7:=by first | exact (below_drewN (Below.refl _ _) _).trans (hb7.mono (Nat.le_refl _)) | exact (below_drewN (below_drewN (Below.refl _ _) _) _).trans (hb7.mono (Nat.le_refl _))
      obtain ⟨d0,d1,d2⟩:=HBX.out w7 hb67
      have HB27:Below w2.heap.size w2 w7:=HB26.out.trans (hb67.mono HB26.out.size)
      have HC2:=Lib.hid (HIT2.out w7 HB27)
      have HB67:=Lib.hid hb67
      clear hb7 hb67 HB27 HIT1 HIT2
      go_wp2_with fail
      refine HC2.out.mono ?_
      rintro y w8 ⟨rfl,hb8⟩
      have HB48:Hid (Below w4.heap.size w4 w8):=Lib.hid (HB46.out.trans ((HB67.out.trans (hb8.mono HB67.out.size)).mono HB46.out.size))
      clear hb8 HC2 d0 d1 d2
      go_wp2_with fail
      go_roundw
      case rel=>exact ⟨i+1,by omega,by go_num,HB48⟩
      case measure=>simp [intOf]; omega
     ·obtain ⟨ip,hip⟩:∃ ip,i=ip+1:=⟨i - 1,by omega⟩
      obtain ⟨⟨pf,pa,pe,psp,pdc⟩,hoc,hbh⟩:=HPREV6.out ip hip
      obtain ⟨k0,k1,k2,k3,k4⟩:=hoc
      simp only at k0 k1 k2 k3 k4
      have ti:(0:Int) < (i:Int):=by omega
      have tin:0 < i:=by omega
      have tsub:IntKind.i64.wrap ((i:Int) - 1)=(ip:Int):=by rw [show (i:Int) - 1=(ip:Int) by omega]; exact IntWalk.i64_in _ (by omega)
      have tsub2:(i:Int) - 1=(ip:Int):=by omega
      have ri1:(0:Int)≤(ip:Int):=by omega
      have ri2:(ip:Int) < (N:Int):=by omega
      have HBH:=Lib.hid hbh
      clear hi0 hip HPREV6 hbh
      by_cases hpf:pf < (k:Int)
      ·have x1:¬ (k:Int) < pf:=by omega
       have x2:(pf == (k:Int))=false:=by simp; omega
       go_quiet (fail)
       go_wp2_with fail
       refine (HIT1.out _ (by first | exact HB26.out.trans ((below_drewN (Below.refl _ _) _).mono HB26.out.size) | exact HB26.out.trans ((below_drewN (below_drewN (Below.refl _ _) _) _).mono HB26.out.size))).mono ?_
       rintro y w7 ⟨rfl,hb7⟩
       have hb67:Below W6.heap.size W6 w7:=by first | exact (below_drewN (Below.refl _ _) _).trans (hb7.mono (Nat.le_refl _)) | exact (below_drewN (below_drewN (Below.refl _ _) _) _).trans (hb7.mono (Nat.le_refl _))
       obtain ⟨d0,d1,d2⟩:=HBX.out w7 hb67
       have HB27:Below w2.heap.size w2 w7:=HB26.out.trans (hb67.mono HB26.out.size)
       have HC2:=Lib.hid (HIT2.out w7 HB27)
       have HB67:=Lib.hid hb67
       clear hb7 hb67 HB27 HIT1 HIT2
       go_wp2_with fail
       refine HC2.out.mono ?_
       rintro y w8 ⟨rfl,hb8⟩
       have HB48:Hid (Below w4.heap.size w4 w8):=Lib.hid (HB46.out.trans ((HB67.out.trans (hb8.mono HB67.out.size)).mono HB46.out.size))
       clear hb8 HC2 d0 d1 d2
       go_wp2_with fail
       go_roundw
       case rel=>exact ⟨i+1,by omega,by go_num,HB48⟩
       case measure=>simp [intOf]; omega
      ·have hpe:pf=(k:Int)∧pe≤at_:=by
        rcases HBH.out with h | ⟨h1,h2⟩
        ·exact absurd h hpf
        ·exact ⟨h1,h2⟩
       obtain ⟨rfl,hpe2⟩:=hpe
       have x3:¬ at_ < pe:=by omega
       clear hpf
       go_quiet (fail)
       go_wp2_with fail
       refine (HIT1.out _ (by first | exact HB26.out.trans ((below_drewN (Below.refl _ _) _).mono HB26.out.size) | exact HB26.out.trans ((below_drewN (below_drewN (Below.refl _ _) _) _).mono HB26.out.size))).mono ?_
       rintro y w7 ⟨rfl,hb7⟩
       have hb67:Below W6.heap.size W6 w7:=by first | exact (below_drewN (Below.refl _ _) _).trans (hb7.mono (Nat.le_refl _)) | exact (below_drewN (below_drewN (Below.refl _ _) _) _).trans (hb7.mono (Nat.le_refl _))
       obtain ⟨d0,d1,d2⟩:=HBX.out w7 hb67
       have HB27:Below w2.heap.size w2 w7:=HB26.out.trans (hb67.mono HB26.out.size)
       have HC2:=Lib.hid (HIT2.out w7 HB27)
       have HB67:=Lib.hid hb67
       clear hb7 hb67 HB27 HIT1 HIT2
       go_wp2_with fail
       refine HC2.out.mono ?_
       rintro y w8 ⟨rfl,hb8⟩
       have HB48:Hid (Below w4.heap.size w4 w8):=Lib.hid (HB46.out.trans ((HB67.out.trans (hb8.mono HB67.out.size)).mono HB46.out.size))
       clear hb8 HC2 d0 d1 d2
       go_wp2_with fail
       go_roundw
       case rel=>exact ⟨i+1,by omega,by go_num,HB48⟩
       case measure=>simp [intOf]; omega
    ·have hiN:i=N:=by omega
     have H8:=Lib.hid (HA.out wr (HK.out.step (HB4.out.trans (HBr.out.mono HB4.out.size))))
     have HBW:=Lib.hid (HB4.out.trans (HBr.out.mono HB4.out.size))
     have hlt2:¬ (i:Int) < (N:Int):=by omega
     clear hiN
     go_wp2_with fail
     refine H8.out.mono ?_
     rintro e w5 ⟨rfl,hb5⟩
     have HB5:=Lib.hid (HBW.out.trans (hb5.mono HBW.out.size))
     clear hb5 H8
     go_wp2_with fail
     go_ret
     exact ⟨rfl,HB5.out⟩
end Go.Proofs.YtmpmfamiegpmgaaGreatDoor

namespace Go.Proofs.YtmpmfamiegpmgaaGreatDoor
open Go.RowKit
theorem rises_walk (p:Option Addr) (n c:Nat) (fs:List FileV) (w:World) (hn:n≤9223372036854775807) (h:FIn w p n c fs) (hk:Kw w) :
  Calls Tryz.prog 11 #[.slice p n c] w fun e w'=>e=.returned (.bool true)∧Below w.heap.size w w':=rises_any fs p n c w hn h hk
end Go.Proofs.YtmpmfamiegpmgaaGreatDoor
