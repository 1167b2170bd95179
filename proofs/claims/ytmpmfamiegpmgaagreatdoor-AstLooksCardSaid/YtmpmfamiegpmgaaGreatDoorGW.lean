/-
  Lower's closure: a part's node is filled, its names become occurrences.
-/
import Derived.Test.YtmpmfamiegpmgaaGreatDoorGV
import Derived.BigRegion
import Derived.Deep.RegionHeld3
import Derived.Deep.RegionWith
import Derived.Deep.Cut
import Derived.Deep.MidRow
import Derived.Deep.AppendLies
namespace Go.Proofs.YtmpmfamiegpmgaaGreatDoor
open Tryz
open Go.Lib (cell_of_heap hid)
open Go.RowKit Go.Maps
set_option maxRecDepth 20000
set_option linter.unusedVariables false
set_option linter.unusedSimpArgs false
abbrev kE:Hd:=⟨0,0,0,0,none,0,0,[],none,0,0⟩
def iG (ts:List Int) (t:Int):Nat:=ts.idxOf t
theorem qC {ts:List Int} {t:Int} (h:t ∈ ts):ts[iG ts t]?=some t:=by
 unfold iG;rw [List.getElem?_eq_getElem (List.idxOf_lt_length_iff.2 h)];exact congrArg some (List.getElem_idxOf _)
def lY (first:Int) (ts:List Int) (t:Int):Int:=wrap64 (first+(iG ts t:Int))
def wZ (L:List Tok) (file k:Int) (n i:Nat) (t:Int):oZ:=⟨file,(L[t.toNat]?.map fun x=>(x.a:Int)).getD 0,(L[t.toNat]?.map fun x=>(x.e:Int)).getD 0,(jH k i n).1,(jH k i n).2⟩
theorem Jb (first:Int) (k m:Nat) (hk:k < m) (hm:m≤10000000) (h:(Lit.int .i64 first).wf=true):IntKind.i64.wrap (wrap64 (first+(k:Int)) - first)=(k:Int):=by
 simp only [wrap64,IntKind.wrap_i64]
 omega
structure LwC (B W0:World) (wx mx fx qx ox oa gw gc mb m:Nat) (L:List Tok) (first file:Int) (ts:List Int):Prop where
 hB:Below B.heap.size B W0
 w1:wx < B.heap.size
 w2:mx < B.heap.size
 w3:fx < B.heap.size
 w4:qx < B.heap.size
 w5:gw < B.heap.size
 c1:B.cell? ⟨wx,0,none⟩=some (.slice (some ⟨gw,0,none⟩) L.length gc)
 c2:B.cell? ⟨mx,0,none⟩=some (.map (some mb))
 c3:B.cell? ⟨fx,0,none⟩=some (.int .i64 file)
 c4:B.cell? ⟨qx,0,none⟩=some (.int .i64 first)
 tok:jr B gw L
 cap:L.length≤gc
 len:L.length≤1000001
 num:PM B mb first ts
 rise:kL ts
 tl:ts.length=m
 m9:m≤10000000
 wf:(Lit.int .i64 first).wf=true
 ne1:ox≠oa
 ox0:B.heap.size≤ox
 oa0:B.heap.size≤oa
 oxl:ox < W0.heap.size
 c5:W0.cell? ⟨ox,0,none⟩=some (.slice (some ⟨oa,0,none⟩) m m)
set_option maxHeartbeats 8000000 in
theorem Fh (B W0:World) (wx mx fx qx ox oa gw gc mb m nb no lb lo:Nat) (L:List Tok) (first file:Int) (ts:List Int) (C:LwC B W0 wx mx fx qx ox oa gw gc mb m L first file ts)
  (e:BA) (hg:e.Good B) (hl1:W0.cell? ⟨lb,lo,none⟩=some (.pointer (some ⟨e.b,e.o,none⟩))) (hl2:W0.cell? ⟨lb,lo+1,none⟩=some (.pointer (some ⟨nb,no,none⟩))) (hlb:lb < W0.heap.size)
  (Oz:lb≠nb) (Yh:lb≠oa) (Yi:ox≠nb) (s0:LcS B.heap.size W0 W0 nb no oa m kE [])
  (hf0:0≤e.y.h.f) (hft:e.y.h.f≤e.y.h.t) (hfL:e.y.h.f < (L.length:Int)) (htL:e.y.h.t≤(L.length:Int)) (hk1:1≤e.y.h.k) (hk2:e.y.h.k≤44) (hmay:kQ e.y.h.k e.y.h.ns.length=true)
  (hns:∀ t ∈ e.y.h.ns,t ∈ ts∧0≤t∧t < (L.length:Int)) (hnd:e.y.h.ns.Nodup) (hnl:e.y.h.ns.length≤1000000) :
  Calls prog 87 #[.pointer (some ⟨lb,lo,none⟩),.pointer (some ⟨wx,0,none⟩),.pointer (some ⟨mx,0,none⟩),.pointer (some ⟨fx,0,none⟩),.pointer (some ⟨ox,0,none⟩),.pointer (some ⟨qx,0,none⟩)] W0 fun x W' =>
   x=.returned (.bool true)∧∃ np nc,LcS B.heap.size W0 W' nb no oa m ⟨e.y.h.k,e.y.h.m,(iI L e.y.h.f.toNat e.y.h.t.toNat).1,(iI L e.y.h.f.toNat e.y.h.t.toNat).2,np,e.y.h.ns.length,nc,e.y.h.ns.map (lY first ts),none,0,0⟩
    (e.y.h.ns.mapIdx fun i t=>(iG ts t,wZ L file e.y.h.k e.y.h.ns.length i t))∧W'.ownsRow W0.heap.size 3 1 (.slice np e.y.h.ns.length nc) e.y.h.ns.length ((e.y.h.ns.map (lY first ts)).map mkI):=by
 obtain ⟨y,bb,bo⟩:=e;have HAT:=hid (fun W (hW:Below B.heap.size B W)=>(hg.at_.step hg.lt hW));have HN:=hid ((aO _ _).1 hg.lies).1;obtain ⟨h,ks⟩:=y;obtain ⟨hk,hm,hf,ht,np,nn,nc,ns,kp,kn,kc⟩:=h;rw [show (Br.mk ⟨hk,hm,hf,ht,np,nn,nc,ns,kp,kn,kc⟩ ks).h=⟨hk,hm,hf,ht,np,nn,nc,ns,kp,kn,kc⟩ from rfl] at *;dsimp only at *
 have CC:=hid C;obtain ⟨f,rfl⟩:∃ f:Nat,hf=(f:Int):=⟨hf.toNat,by omega⟩
 obtain ⟨t,rfl⟩:∃ t:Nat,ht=(t:Int):=⟨ht.toNat,by omega⟩
 simp only [Int.toNat_natCast];have hnn:nn=ns.length:=HN.out.1;rw [← hnn] at hmay hnl ⊢;have DI:=hid hnn;obtain ⟨all,hall⟩:∃ all,all=ns.mapIdx fun i t=>(iG ts t,wZ L file hk nn i t):=⟨_,rfl⟩
 rw [← hall];have pJ:=hid hall;obtain ⟨sp,hsp⟩:∃ sp,sp=iI L f t:=⟨_,rfl⟩
 rw [← hsp];have Yj:=hid hsp;have U7:=hid (fun (i:Nat) (hi:i < nn) W=>Lp hk i nn hk1 hk2 hmay hi (by omega) W);have Xh:=hid hns;have JO:=hid hnd;clear hnn hall hsp hmay;have hS0:=hid s0;obtain ⟨a0,a1,a2,a3,a4,a5⟩:=HAT.out W0 C.hB;obtain ⟨n0,n1,n2,n3,n4,n5⟩:=s0.node;dsimp only at a0 a1 a2 a3 a4 a5 n0 n1 n2 n3 n4 n5
 have z0:=s0.nfz no;have z1:=s0.nfz (no+1);have hne1:(⟨nb,no,none⟩:Addr)≠⟨nb,no+1,none⟩:=addr_ne (by omega);clear hg C hns hnd s0
 go_enter func87,ntmps87
 go_wp2_with fail
 go_quiet (fail)
 go_wp2_with fail
 go_region
 have hS1:=((hS0.out.step (below_drewN (Below.refl _ _) (nq+1))).set0 hk).set1 hm;dsimp only at hS1
 obtain ⟨W1,hW1⟩:∃ W1,W1=((W0.drewN (nq+1)).setCell ⟨nb,no,none⟩ (.int .i64 hk)).setCell ⟨nb,no+1,none⟩ (.int .i64 hm):=⟨_,rfl⟩
 rw [← hW1] at hS1 ⊢;clear hW1 a0 a1 a2 a3 a4 a5 n0 n1 n2 n3 n4 n5 z0 z1 hne1 hS0 hl1 hl2 hlb Oz Yh;have hB1:=CC.out.hB.trans hS1.bel;obtain ⟨a0,a1,a2,a3,a4,a5⟩:=HAT.out W1 hB1;obtain ⟨n0,n1,n2,n3,n4,n5⟩:=hS1.node;dsimp only at a0 a1 a2 a3 a4 a5 n0 n1 n2 n3 n4 n5
 have c1:=(hB1.cell (p:=⟨wx,0,none⟩) CC.out.w1).trans CC.out.c1;have z0:=hS1.nfz (no+2);have z1:=hS1.nfz (no+3);have hne1:(⟨nb,no+2,none⟩:Addr)≠⟨nb,no+3,none⟩:=addr_ne (by omega);have Yk:Hid (∀ W,Below B.heap.size B W→Calls prog 88 #[.slice (some ⟨gw,0,none⟩) L.length gc,.int .i64 f,.int .i64 t] W fun e w'=>e=.returned (.tuple #[.int .i64 sp.1,.int .i64 sp.2])∧∃ m,w'=W.drewN m):=hid (fun W (hW:Below B.heap.size B W)=>by rw [Yj.out]; exact Ny L gw gc f t W (CC.out.tok.step CC.out.w5 hW) (by omega) (by omega) (by omega) CC.out.cap (by have:=CC.out.len; omega));have HB1:=hid hB1;have hS1':=hid hS1;clear hB1 hS1
 go_wp2_with fail
 go_cut [8,9] from 16 (fun v8 v9 wc=>v8=.pointer (some ⟨bb,bo,none⟩)∧v9=.pointer (some ⟨nb,no,none⟩)∧LcS B.heap.size W0 wc nb no oa m ⟨hk,hm,sp.1,sp.2,none,0,0,[],none,0,0⟩ [])
 case first =>
  go_region_with (go_at_call 88; refine (Yk.out _ (by first | exact HB1.out | exact HB1.out.drew | exact below_drewN HB1.out _)).mono ?_; rintro e w' ⟨rfl,mm,rfl⟩)
  all_goals
   go_wp2_with fail
   go_meet
   case rel=>exact ⟨rfl,rfl,((hS1'.out.step (by first | exact below_drewN (Below.refl _ _) _ | exact (Below.refl _ _).drew)).set2 _).set3 _⟩
 case rest =>
  obtain ⟨rfl,rfl,hS2⟩:=hcut;clear a0 a1 a2 a3 a4 a5 n0 n1 n2 n3 n4 n5 c1 z0 z1 hne1;have hB2:=CC.out.hB.trans hS2.bel;obtain ⟨a0,a1,a2,a3,a4,a5⟩:=HAT.out wc hB2;dsimp only at a0 a1 a2 a3 a4 a5
  have HS2:=hid hS2;clear hS2 hB2
  go_wp2_with fail
  clear a0 a1 a2 a3 a4 a5
  go_loopw [62] (fun iv wr=>∃ i:Nat,i≤nn∧iv=.int .i64 i∧∃ (np':Option Addr) (nc':Nat),Hid (LcS B.heap.size W0 wr nb no oa m ⟨hk,hm,sp.1,sp.2,np',i,nc',(ns.take i).map (lY first ts),none,0,0⟩ (all.take i))∧Hid (wr.ownsRow W0.heap.size 3 1 (.slice np' i nc') i (((ns.take i).map (lY first ts)).map mkI))) (fun iv _=>nn - (intOf iv).toNat)
  case atStart=>exact ⟨0,by omega,rfl,none,0,by simpa using HS2,hid ⟨rfl,.inl ⟨rfl,rfl⟩⟩⟩
  case round =>
   obtain ⟨i,hi,rfl,np',nc',HS,sZ⟩:=hrel
   by_cases hlt:i < nn
   ·obtain ⟨b1,off,rfl,hc1,hb1,nN⟩:=HN.out.2.resolve_left (by omega)
    have hil:i < ns.length:=by rw [← DI.out]; exact hlt
    have hBr:=CC.out.hB.trans HS.out.bel;obtain ⟨x,hx⟩:∃ x,ns[i]?=some x:=⟨_,List.getElem?_eq_getElem hil⟩
    have q0:wr.cell? ⟨b1,off+i,none⟩=some (.int .i64 x):=by
     have:=(nN.step hb1 hBr) i hil
     rw [this]
     have:=List.getElem?_eq_getElem hil
     rw [hx] at this;rw [Option.some.inj this]
    obtain ⟨x0,x1,x2⟩:=Xh.out x (List.mem_of_getElem? hx);obtain ⟨j,rfl⟩:∃ j:Nat,x=(j:Int):=⟨x.toNat,by omega⟩
    have Yl:j < L.length:=by omega
    obtain ⟨a0,a1,a2,a3,a4,a5⟩:=HAT.out wr hBr;dsimp only at a0 a1 a2 a3 a4 a5
    have HX:=hid hx;have DC:=hid hBr;have r1:(0:Int)≤(i:Int):=by omega
    have r2:(i:Int) < (nn:Int):=by omega
    have r3:(0:Int)≤(j:Int):=by omega
    have r4:(j:Int) < (L.length:Int):=by omega
    have HR:=hid (U7.out i hlt);have Ym:Hid (wZ L file hk nn i (j:Int)=⟨file,(L[j].a:Int),(L[j].e:Int),(jH hk i nn).1,(jH hk i nn).2⟩):=hid (by simp [wZ,Yl]);have HJL:=hid Yl;generalize jH hk i nn=rp at *;obtain ⟨rsp,rdec⟩:=rp;clear nN hx x1 x2 hBr hil;have HTE:Hid (∃ ta te:Nat,L[j].a=ta∧L[j].e=te):=hid ⟨_,_,rfl,rfl⟩;have yG:=hid (fun W (hW:Below B.heap.size B W)=>(CC.out.tok.step CC.out.w5 hW) j Yl);have HXT:=hid x0;clear x0
    go_wp2_with fail
    go_quiet (exact Calls.quiet_of_same ((HR.out _).mono fun e w' h=>⟨h.1,h.2.symm⟩))
    go_wp2_with fail
    have hBr:=DC.out.trans ((below_drewN (Below.refl wr.heap.size wr) nq).mono DC.out.size);have hS3:=HS.out.step (below_drewN (Below.refl wr.heap.size wr) nq);have hR3:=ownsRow_below sZ.out (below_drewN (Below.refl wr.heap.size wr) nq);generalize wr.drewN nq=W2 at *;obtain ⟨t0,t1,t2⟩:=yG.out W2 hBr;have c1:=(hBr.cell (p:=⟨wx,0,none⟩) CC.out.w1).trans CC.out.c1;have c2:=(hBr.cell (p:=⟨mx,0,none⟩) CC.out.w2).trans CC.out.c2;obtain ⟨D,dn,hown,hDs,U8⟩:=CC.out.num.ex;have OA:iG ts (j:Int) < ts.length:=List.idxOf_lt_length_iff.2 HXT.out;have hkey:keyOf prog 3 (.int .i64 (j:Int))=some (.int .i64 (j:Int)):=keyOf_int_mk underlying3 (WalkArith.wf_i64 (by have:=CC.out.len; omega));have hDj:D.atKey (.int .i64 (j:Int)) (.lit (.int .i64 0))=.lit (.int .i64 (lY first ts (j:Int))):=by
     have:=U8 (iG ts (j:Int)) OA
     rw [show ts[iG ts (j:Int)]=(j:Int) from List.getElem_idxOf OA] at this;exact this
    have Yn:Hid (∀ W,Below B.heap.size B W→(Instr.lookup 146 (.map (some mb)) (.int .i64 (j:Int)) false).run prog W=.ok (.int .i64 (lY first ts (j:Int))) W):=hid fun W hW=>by
     obtain ⟨c,h1,h2,_⟩:=(hown.kept (grown_below hW none) (by simp)).lookup_int law3 underlying146 underlying3 (zero3 _) hkey;rw [hDj] at h2
     have:lY first ts (j:Int)=c:=by simpa using h2
     rw [this]; exact h1
    have Si:=hid OA;have KP:=hid hS3;have HR3:=hid hR3;have HB3:=hid hBr;have e1:=Yn.out W2.drew hBr.drew;have e2:=fun o=>Yn.out (W2.alloc o).drew (hBr.alloc (Nat.le_trans hBr.size (Nat.le_refl _)) o).drew
    have l1:wx < W2.heap.size:=Nat.lt_of_lt_of_le CC.out.w1 hBr.size;have l2:mx < W2.heap.size:=Nat.lt_of_lt_of_le CC.out.w2 hBr.size;have l3:gw < W2.heap.size:=Nat.lt_of_lt_of_le CC.out.w5 hBr.size;have l4:¬ wx=W2.heap.size:=by omega
    have l5:¬ mx=W2.heap.size:=by omega
    have l6:¬ gw=W2.heap.size:=by omega
    clear hown hDs U8 OA hkey hDj hS3 hBr hR3;have QK:IntKind.i64.wrap (lY first ts (j:Int) - first)=(iG ts (j:Int):Int):=by
     exact Jb first _ m (by rw [← CC.out.tl]; exact Si.out) CC.out.m9 CC.out.wf
    have Sj:iG ts (j:Int) < m:=by rw [← CC.out.tl]; exact Si.out
    obtain ⟨ov,o0,o1,o2,o3,o4⟩:=KP.out.full _ Sj;have g0:=KP.out.ofz (iG ts (j:Int) * 5);have g1:=KP.out.ofz (iG ts (j:Int) * 5+1);have g2:=KP.out.ofz (iG ts (j:Int) * 5+2);have g3:=KP.out.ofz (iG ts (j:Int) * 5+3);have g4:=KP.out.ofz (iG ts (j:Int) * 5+4);have c3:=(HB3.out.cell (p:=⟨fx,0,none⟩) CC.out.w3).trans CC.out.c3;have c4:=(HB3.out.cell (p:=⟨qx,0,none⟩) CC.out.w4).trans CC.out.c4;have c5:W2.cell? ⟨ox,0,none⟩=some (.slice (some ⟨oa,0,none⟩) m m):=(World.cell?_of_block (KP.out.far ox CC.out.oxl Yi CC.out.ne1)).trans CC.out.c5;have r5:(0:Int)≤(iG ts (j:Int):Int):=by omega
    have r6:(iG ts (j:Int):Int) < (m:Int):=by omega
    have U9:=hid Sj;clear Sj;obtain ⟨id,hqd⟩:∃ id,id=iG ts (j:Int):=⟨_,rfl⟩
    have Va:=hid hqd;obtain ⟨num,hnum⟩:∃ num,num=lY first ts (j:Int):=⟨_,rfl⟩
    have Yo:=hid hnum;rw [← hqd] at QK o0 o1 o2 o3 o4 g0 g1 g2 g3 g4 r5 r6 U9 Si;rw [← hnum] at QK e1 Yn;simp only [← hnum] at e2;clear hqd hnum;clear HTE;generalize L[j].k=tk at *;generalize L[j].a=ta at *;generalize L[j].e=te at *
    go_region
    obtain ⟨W4,Xi⟩:∃ W4,W4=(W2.alloc (.cells #[.int .i64 tk,.int .i64 (ta:Int),.int .i64 (te:Int)] 119)).drew:=⟨_,rfl⟩
    have hb4:Below W2.heap.size W2 W4:=by rw [Xi]; exact ((Below.refl _ _).alloc (Nat.le_refl _) _).drew
    have Xj:W4.heap[W2.heap.size]?=some (.cells #[.int .i64 tk,.int .i64 (ta:Int),.int .i64 (te:Int)] 119):=by rw [Xi]; exact heap_alloc_new W2 _
    rw [← Xi];obtain ⟨tb,htb⟩:∃ tb,tb=W2.heap.size:=⟨_,rfl⟩
    rw [← htb] at Xj ⊢;have k1:W4.cell? ⟨tb,1,none⟩=some (.int .i64 (ta:Int)):=cell_of_heap Xj 1;have k2:W4.cell? ⟨tb,2,none⟩=some (.int .i64 (te:Int)):=cell_of_heap Xj 2;have Vb:oa < W2.heap.size:=Nat.lt_of_lt_of_le KP.out.l2 KP.out.size;have Vd:ox < W2.heap.size:=Nat.lt_of_lt_of_le CC.out.oxl KP.out.size;have hS4:=KP.out.step hb4;obtain ⟨o0,o1,o2,o3,o4⟩:gq W4 oa (id * 5) ov:=gq.ext ⟨o0,o1,o2,o3,o4⟩ fun j _=>hb4.cell (p:=⟨oa,_,none⟩) Vb
    have g0:=hS4.ofz (id * 5);have g1:=hS4.ofz (id * 5+1);have g2:=hS4.ofz (id * 5+2);have g3:=hS4.ofz (id * 5+3);have g4:=hS4.ofz (id * 5+4);have hB4:=HB3.out.trans (hb4.mono HB3.out.size);have c3:=(hB4.cell (p:=⟨fx,0,none⟩) CC.out.w3).trans CC.out.c3;have c4:=(hB4.cell (p:=⟨qx,0,none⟩) CC.out.w4).trans CC.out.c4;have c5:=(hb4.cell (p:=⟨ox,0,none⟩) Vd).trans c5;have Ve:=hid hS4;have HR4:=hid (ownsRow_below HR3.out hb4);have HB4:=hid hB4;clear Xi hb4 Xj htb Vb Vd hS4 hB4 e1 e2 t0 t1 t2 c1 c2 l1 l2 l3 l4 l5 l6;have HTH:Hid (W4.there oa (id * 5) 5):=hid (fun q hq=>by
     match q,hq with
     | 0,_=>exact ⟨by rw [Nat.add_zero,o0]; rfl,g0⟩
     | 1,_=>exact ⟨by rw [o1]; rfl,g1⟩
     | 2,_=>exact ⟨by rw [o2]; rfl,g2⟩
     | 3,_=>exact ⟨by rw [o3]; rfl,g3⟩
     | 4,_=>exact ⟨by rw [o4]; rfl,g4⟩)
    have Vf:(prog.info? 41).map (·.size)=some 5:=by kernel_rfl
    have Yp:=hid Vf;clear o0 o1 o2 o3 o4 g0 g1 g2 g3 g4 Vf;have HW4:Hid (W0.heap.size≤W4.heap.size):=hid Ve.out.size;have HXI:Hid (all[i]?=some (id,⟨file,(ta:Int),(te:Int),rsp,rdec⟩)):=hid (by
     rw [pJ.out,List.getElem?_mapIdx,HX.out];simp only [Option.map_some,Option.some.injEq,Prod.mk.injEq];exact ⟨Va.out.symm,Ym.out⟩)
    have hnot:∀ u,(id,u) ∉ all.take i:=fun u hu=>by
     obtain ⟨q,hq,hqe⟩:=List.mem_iff_getElem.1 hu;have Xd:q < i:=by have:=hq; simp at this; omega
     have h1:all[q]?=some (id,u):=by
      rw [← hqe,List.getElem_take]; exact List.getElem?_eq_getElem _
     rw [pJ.out,List.getElem?_mapIdx] at h1;obtain ⟨z,hz1,hz2⟩:=Option.map_eq_some_iff.1 h1;have hz3:iG ts z=id:=(Prod.mk.inj hz2).1;obtain ⟨zq,rfl⟩:=List.getElem?_eq_some_iff.1 hz1;have e1:ts[iG ts ns[q]]?=some ns[q]:=qC (Xh.out _ (List.getElem_mem zq)).1;have e2:ts[iG ts (j:Int)]?=some (j:Int):=qC HXT.out;rw [hz3,Va.out,e2] at e1;obtain ⟨xi,hxi⟩:=List.getElem?_eq_some_iff.1 HX.out
     have:ns[q]=ns[i]'xi:=by rw [hxi]; exact (Option.some.inj e1).symm
     have:=(List.getElem_inj JO.out).1 this
     omega
    have hS5:=Ve.out.setOcc id U9.out ⟨file,(ta:Int),(te:Int),rsp,rdec⟩ hnot;have Yq:(W4.setCells oa (id * 5) (oZ.cells ⟨file,(ta:Int),(te:Int),rsp,rdec⟩)).ownsRow W0.heap.size 3 1 (.slice np' i nc') i (((ns.take i).map (lY first ts)).map mkI):=HR4.out.kept (jZ oa _ _ _) (Or.inr (fun e=>by have:=(HR4.out.lt _ e).1; have:=Ve.out.l2; omega));have e5:oZ.cells ⟨file,(ta:Int),(te:Int),rsp,rdec⟩=[.int .i64 file,.int .i64 (ta:Int),.int .i64 (te:Int),.int .i64 rsp,.bool rdec]:=rfl;rw [e5] at hS5 Yq;have QM:=hid hS5;have jP:=hid Yq;obtain ⟨W5,Yr⟩:∃ W5,W5=W4.setCells oa (id * 5) [.int .i64 file,.int .i64 (ta:Int),.int .i64 (te:Int),.int .i64 rsp,.bool rdec]:=⟨_,rfl⟩
    have HW5:=hid Yr;rw [← Yr] at QM jP;obtain ⟨n0,n1,n2,n3,n4,n5⟩:=QM.out.node;dsimp only at n4
    have z4:=QM.out.nfz (no+4);have abO:nb < W5.heap.size:=Nat.lt_of_lt_of_le QM.out.l1 QM.out.size;have abP:W0.heap.size≤W5.heap.size:=QM.out.size;obtain ⟨i0,hi0,hy0,hy1,hy2⟩:=info_parts info3;have hi6:i≤1000000:=by omega
    clear hnot hS5 Yq e5 Yr n0 n1 n2 n3 n5;have tok1:True:=trivial
    go_wp2_with (first
     | (refine wpList_store_mid rfl 41 (.tmp 100) (.tmp 99) rfl oa (id * 5) #[.int .i64 file,.int .i64 (ta:Int),.int .i64 (te:Int),.int .i64 rsp,.bool rdec] rfl rfl HTH.out Yp.out (by simp [Value.oneCell']) ?_; show wpList _ _ _ _ _ (W4.setCells oa (id * 5) [.int .i64 file,.int .i64 (ta:Int),.int .i64 (te:Int),.int .i64 rsp,.bool rdec]); rw [← HW5.out])
     | (at_builtin; refine wpList_append_lies _ rfl _ _ 23 rfl W0.heap.size 3 i0 _ 1 8 underlying23 hi0 hy0 hy1 hy2 rfl (by omega) _ i _ rfl (World.ownsRow.alloc jP.out _) ⟨W5.heap.size,0,none⟩ 1 1 [.int .i64 num] rfl rfl kX (by simp [Value.oneCell']) (by omega) (by unfold maxLen; omega) (by omega) (by simp; omega) (W5.heap.size+1) (by simp) ?_; intro g2 cc2 w6 hown6 hgrow6 Yt OB; have hga:=(Below.refl W5.heap.size W5).alloc (Nat.le_refl _) (.cells #[.int .i64 num] 3); have hS6:=(QM.out.step hga).grow hgrow6 (fun q hq=>by have:=(jP.out.lt q (by rw [← hq]; rfl)).1; exact this); have HS6:=hid hS6; have Um:=hid hown6; have D5:=hid OB; obtain ⟨n60,n61,n62,n63,n64,n65⟩:=hS6.node; have z6:=hS6.nfz (no+4); dsimp only at n64; clear hga hS6 hown6 hgrow6 Yt n60 n61 n62 n63 n65 n4 z4 OB)
     | go_in)
    go_roundw
    case rel =>
     refine ⟨i+1,by omega,by go_num,some ⟨g2,0,none⟩,cc2,hid ?_,hid ?_⟩
     ·have h7:=HS6.out.set4 (some ⟨g2,0,none⟩) (i+1) cc2 ((ns.take (i+1)).map (lY first ts))
      obtain ⟨xi,hxi⟩:=List.getElem?_eq_some_iff.1 HXI.out;rw [List.take_succ_eq_append_getElem xi,hxi];exact h7
     ·have e8:((ns.take (i+1)).map (lY first ts)).map mkI=((ns.take i).map (lY first ts)).map mkI++[.int .i64 num]:=by
       obtain ⟨xi,hxi⟩:=List.getElem?_eq_some_iff.1 HX.out;rw [List.take_succ_eq_append_getElem xi,hxi]
       simp [Yo.out]
      rw [e8];exact Qi Um.out QM.out.l1
    case measure=>simp [intOf]; omega
   ·have he:i=nn:=by omega
    subst he
    go_wp2_with fail
    go_ret
    have e9:all.take i=all:=List.take_of_length_le (by rw [pJ.out]; simp [DI.out]);have e8:ns.take i=ns:=List.take_of_length_le (by rw [DI.out]; exact Nat.le_refl _);rw [e8] at HS sZ;rw [e9] at HS;exact ⟨rfl,np',nc',HS.out,sZ.out⟩
end Go.Proofs.YtmpmfamiegpmgaaGreatDoor
