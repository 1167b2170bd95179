/-
  Lower's closure: a part's node is filled, its names become occurrences.
-/
import Derived.Test.YtmpmfamiegpmgaaGreatDoorFV
import Derived.BigRegion
import Derived.Deep.RegionHeld3
import Derived.Deep.RegionWith
import Derived.Deep.Cut
import Derived.Deep.MidRow
import Derived.Deep.AppendLies
namespace Go.Proofs.YtmpmfamiegpmgaaGreatDoor
open Tryz
open Go.Lib (cell_of_heap hid)
open Go.RowKit Go.Maps
set_option maxRecDepth 20000
set_option linter.unusedVariables false
set_option linter.unusedSimpArgs false
abbrev lm:Hd:=⟨0,0,0,0,none,0,0,[],none,0,0⟩
def iU (ts:List Int) (t:Int):Nat:=ts.idxOf t
theorem qg {ts:List Int} {t:Int} (h:t ∈ ts):ts[iU ts t]?=some t:=by
 unfold iU
 rw [List.getElem?_eq_getElem (List.idxOf_lt_length_iff.2 h)]
 exact congrArg some (List.getElem_idxOf _)
def jQ (first:Int) (ts:List Int) (t:Int):Int:=wrap64 (first+(iU ts t:Int))
def oH (L:List Tok) (file k:Int) (n i:Nat) (t:Int):jr:=⟨file,(L[t.toNat]?.map fun x=>(x.a:Int)).getD 0,(L[t.toNat]?.map fun x=>(x.e:Int)).getD 0,(jo k i n).1,(jo k i n).2⟩
theorem IG (first:Int) (k m:Nat) (hk:k < m) (hm:m≤10000000) (h:(Lit.int .i64 first).wf=true):IntKind.i64.wrap (wrap64 (first+(k:Int)) - first)=(k:Int):=by
 simp only [wrap64,IntKind.wrap_i64]
 omega
structure LwC (B W0:World) (wx mx fx qx ox oa gw gc mb m:Nat) (L:List Tok) (first file:Int) (ts:List Int):Prop where
 hB:Below B.heap.size B W0
 w1:wx < B.heap.size
 w2:mx < B.heap.size
 w3:fx < B.heap.size
 w4:qx < B.heap.size
 w5:gw < B.heap.size
 c1:B.cell? ⟨wx,0,none⟩=some (.slice (some ⟨gw,0,none⟩) L.length gc)
 c2:B.cell? ⟨mx,0,none⟩=some (.map (some mb))
 c3:B.cell? ⟨fx,0,none⟩=some (.int .i64 file)
 c4:B.cell? ⟨qx,0,none⟩=some (.int .i64 first)
 tok:kC B gw L
 cap:L.length≤gc
 len:L.length≤1000001
 num:O9 B mb first ts
 rise:oz ts
 tl:ts.length=m
 m9:m≤10000000
 wf:(Lit.int .i64 first).wf=true
 ne1:ox≠oa
 ox0:B.heap.size≤ox
 oa0:B.heap.size≤oa
 oxl:ox < W0.heap.size
 c5:W0.cell? ⟨ox,0,none⟩=some (.slice (some ⟨oa,0,none⟩) m m)
set_option maxHeartbeats 8000000 in
theorem Fa (B W0:World) (wx mx fx qx ox oa gw gc mb m nb no lb lo:Nat) (L:List Tok) (first file:Int) (ts:List Int) (C:LwC B W0 wx mx fx qx ox oa gw gc mb m L first file ts)
  (e:BA) (hg:e.Good B) (hl1:W0.cell? ⟨lb,lo,none⟩=some (.pointer (some ⟨e.b,e.o,none⟩))) (hl2:W0.cell? ⟨lb,lo+1,none⟩=some (.pointer (some ⟨nb,no,none⟩))) (hlb:lb < W0.heap.size)
  (OH:lb≠nb) (X0:lb≠oa) (X3:ox≠nb) (s0:LcS B.heap.size W0 W0 nb no oa m lm [])
  (hf0:0≤e.y.h.f) (hft:e.y.h.f≤e.y.h.t) (hfL:e.y.h.f < (L.length:Int)) (htL:e.y.h.t≤(L.length:Int)) (hk1:1≤e.y.h.k) (hk2:e.y.h.k≤44) (hmay:kP e.y.h.k e.y.h.ns.length=true)
  (hns:∀ t ∈ e.y.h.ns,t ∈ ts∧0≤t∧t < (L.length:Int)) (hnd:e.y.h.ns.Nodup) (hnl:e.y.h.ns.length≤1000000) :
  Calls prog 87 #[.pointer (some ⟨lb,lo,none⟩),.pointer (some ⟨wx,0,none⟩),.pointer (some ⟨mx,0,none⟩),.pointer (some ⟨fx,0,none⟩),.pointer (some ⟨ox,0,none⟩),.pointer (some ⟨qx,0,none⟩)] W0 fun x W' =>
   x=.returned (.bool true)∧∃ np nc,LcS B.heap.size W0 W' nb no oa m ⟨e.y.h.k,e.y.h.m,(eQ L e.y.h.f.toNat e.y.h.t.toNat).1,(eQ L e.y.h.f.toNat e.y.h.t.toNat).2,np,e.y.h.ns.length,nc,e.y.h.ns.map (jQ first ts),none,0,0⟩
    (e.y.h.ns.mapIdx fun i t=>(iU ts t,oH L file e.y.h.k e.y.h.ns.length i t))∧W'.ownsRow W0.heap.size 3 1 (.slice np e.y.h.ns.length nc) e.y.h.ns.length ((e.y.h.ns.map (jQ first ts)).map mkI):=by
 obtain ⟨y,bb,bo⟩:=e
 have HAT:=hid (fun W (hW:Below B.heap.size B W)=>(hg.at_.step hg.lt hW))
 have HN:=hid ((dI _ _).1 hg.lies).1
 obtain ⟨h,ks⟩:=y
 obtain ⟨hk,hm,hf,ht,np,nn,nc,ns,kp,kn,kc⟩:=h
 rw [show (Br.mk ⟨hk,hm,hf,ht,np,nn,nc,ns,kp,kn,kc⟩ ks).h=⟨hk,hm,hf,ht,np,nn,nc,ns,kp,kn,kc⟩ from rfl] at *
 dsimp only at *
 have CC:=hid C
 obtain ⟨f,rfl⟩:∃ f:Nat,hf=(f:Int):=⟨hf.toNat,by omega⟩
 obtain ⟨t,rfl⟩:∃ t:Nat,ht=(t:Int):=⟨ht.toNat,by omega⟩
 simp only [Int.toNat_natCast]
 have hnn:nn=ns.length:=HN.out.1
 rw [← hnn] at hmay hnl ⊢
 have H9:=hid hnn
 obtain ⟨all,hall⟩:∃ all,all=ns.mapIdx fun i t=>(iU ts t,oH L file hk nn i t):=⟨_,rfl⟩
 rw [← hall]
 have KY:=hid hall
 obtain ⟨sp,hsp⟩:∃ sp,sp=eQ L f t:=⟨_,rfl⟩
 rw [← hsp]
 have X4:=hid hsp
 have Va:=hid (fun (i:Nat) (hi:i < nn) W=>ND hk i nn hk1 hk2 hmay hi (by omega) W)
 have WL:=hid hns
 have Kq:=hid hnd
 clear hnn hall hsp hmay
 have hS0:=hid s0
 obtain ⟨a0,a1,a2,a3,a4,a5⟩:=HAT.out W0 C.hB
 obtain ⟨n0,n1,n2,n3,n4,n5⟩:=s0.node
 dsimp only at a0 a1 a2 a3 a4 a5 n0 n1 n2 n3 n4 n5
 have z0:=s0.nfz no
 have z1:=s0.nfz (no+1)
 have hne1:(⟨nb,no,none⟩:Addr)≠⟨nb,no+1,none⟩:=addr_ne (by omega)
 clear hg C hns hnd s0
 go_enter func87,ntmps87
 go_wp2_with fail
 go_quiet (fail)
 go_wp2_with fail
 go_region
 have hS1:=((hS0.out.step (below_drewN (Below.refl _ _) (nq+1))).set0 hk).set1 hm
 dsimp only at hS1
 obtain ⟨W1,hW1⟩:∃ W1,W1=((W0.drewN (nq+1)).setCell ⟨nb,no,none⟩ (.int .i64 hk)).setCell ⟨nb,no+1,none⟩ (.int .i64 hm):=⟨_,rfl⟩
 rw [← hW1] at hS1 ⊢
 clear hW1 a0 a1 a2 a3 a4 a5 n0 n1 n2 n3 n4 n5 z0 z1 hne1 hS0 hl1 hl2 hlb OH X0
 have hB1:=CC.out.hB.trans hS1.bel
 obtain ⟨a0,a1,a2,a3,a4,a5⟩:=HAT.out W1 hB1
 obtain ⟨n0,n1,n2,n3,n4,n5⟩:=hS1.node
 dsimp only at a0 a1 a2 a3 a4 a5 n0 n1 n2 n3 n4 n5
 have c1:=(hB1.cell (p:=⟨wx,0,none⟩) CC.out.w1).trans CC.out.c1
 have z0:=hS1.nfz (no+2)
 have z1:=hS1.nfz (no+3)
 have hne1:(⟨nb,no+2,none⟩:Addr)≠⟨nb,no+3,none⟩:=addr_ne (by omega)
 have HSP:Hid (∀ W,Below B.heap.size B W→Calls prog 88 #[.slice (some ⟨gw,0,none⟩) L.length gc,.int .i64 f,.int .i64 t] W fun e w'=>e=.returned (.tuple #[.int .i64 sp.1,.int .i64 sp.2])∧∃ m,w'=W.drewN m):=hid (fun W (hW:Below B.heap.size B W)=>by rw [X4.out]; exact MB L gw gc f t W (CC.out.tok.step CC.out.w5 hW) (by omega) (by omega) (by omega) CC.out.cap (by have:=CC.out.len; omega))
 have HB1:=hid hB1
 have hS1':=hid hS1
 clear hB1 hS1
 go_wp2_with fail
 go_cut [8,9] from 16 (fun v8 v9 wc=>v8=.pointer (some ⟨bb,bo,none⟩)∧v9=.pointer (some ⟨nb,no,none⟩)∧LcS B.heap.size W0 wc nb no oa m ⟨hk,hm,sp.1,sp.2,none,0,0,[],none,0,0⟩ [])
 case first =>
  go_region_with (go_at_call 88; refine (HSP.out _ (by first | exact HB1.out | exact HB1.out.drew | exact below_drewN HB1.out _)).mono ?_; rintro e w' ⟨rfl,mm,rfl⟩)
  all_goals
   go_wp2_with fail
   go_meet
   case rel=>exact ⟨rfl,rfl,((hS1'.out.step (by first | exact below_drewN (Below.refl _ _) _ | exact (Below.refl _ _).drew)).set2 _).set3 _⟩
 case rest =>
  obtain ⟨rfl,rfl,hS2⟩:=hcut
  clear a0 a1 a2 a3 a4 a5 n0 n1 n2 n3 n4 n5 c1 z0 z1 hne1
  have hB2:=CC.out.hB.trans hS2.bel
  obtain ⟨a0,a1,a2,a3,a4,a5⟩:=HAT.out wc hB2
  dsimp only at a0 a1 a2 a3 a4 a5
  have HS2:=hid hS2
  clear hS2 hB2
  go_wp2_with fail
  clear a0 a1 a2 a3 a4 a5
  go_loopw [62] (fun iv wr=>∃ i:Nat,i≤nn∧iv=.int .i64 i∧∃ (np':Option Addr) (nc':Nat),Hid (LcS B.heap.size W0 wr nb no oa m ⟨hk,hm,sp.1,sp.2,np',i,nc',(ns.take i).map (jQ first ts),none,0,0⟩ (all.take i))∧Hid (wr.ownsRow W0.heap.size 3 1 (.slice np' i nc') i (((ns.take i).map (jQ first ts)).map mkI))) (fun iv _=>nn - (intOf iv).toNat)
  case atStart=>exact ⟨0,by omega,rfl,none,0,by simpa using HS2,hid ⟨rfl,.inl ⟨rfl,rfl⟩⟩⟩
  case round =>
   obtain ⟨i,hi,rfl,np',nc',HS,Sz⟩:=hrel
   by_cases hlt:i < nn
   ·obtain ⟨b1,off,rfl,hc1,hb1,vF⟩:=HN.out.2.resolve_left (by omega)
    have hil:i < ns.length:=by rw [← H9.out]; exact hlt
    have hBr:=CC.out.hB.trans HS.out.bel
    obtain ⟨x,hx⟩:∃ x,ns[i]?=some x:=⟨_,List.getElem?_eq_getElem hil⟩
    have q0:wr.cell? ⟨b1,off+i,none⟩=some (.int .i64 x):=by
     have:=(vF.step hb1 hBr) i hil
     rw [this]
     have:=List.getElem?_eq_getElem hil
     rw [hx] at this
     rw [Option.some.inj this]
    obtain ⟨x0,x1,x2⟩:=WL.out x (List.mem_of_getElem? hx)
    obtain ⟨j,rfl⟩:∃ j:Nat,x=(j:Int):=⟨x.toNat,by omega⟩
    have X5:j < L.length:=by omega
    obtain ⟨a0,a1,a2,a3,a4,a5⟩:=HAT.out wr hBr
    dsimp only at a0 a1 a2 a3 a4 a5
    have HX:=hid hx
    have Uf:=hid hBr
    have r1:(0:Int)≤(i:Int):=by omega
    have r2:(i:Int) < (nn:Int):=by omega
    have r3:(0:Int)≤(j:Int):=by omega
    have r4:(j:Int) < (L.length:Int):=by omega
    have HR:=hid (Va.out i hlt)
    have X6:Hid (oH L file hk nn i (j:Int)=⟨file,(L[j].a:Int),(L[j].e:Int),(jo hk i nn).1,(jo hk i nn).2⟩):=hid (by simp [oH,X5])
    have HJL:=hid X5
    generalize jo hk i nn=rp at *
    obtain ⟨rsp,rdec⟩:=rp
    clear vF hx x1 x2 hBr hil
    have HTE:Hid (∃ ta te:Nat,L[j].a=ta∧L[j].e=te):=hid ⟨_,_,rfl,rfl⟩
    have qJ:=hid (fun W (hW:Below B.heap.size B W)=>(CC.out.tok.step CC.out.w5 hW) j X5)
    have ZJ:=hid x0
    clear x0
    go_wp2_with fail
    go_quiet (exact Calls.quiet_of_same ((HR.out _).mono fun e w' h=>⟨h.1,h.2.symm⟩))
    go_wp2_with fail
    have hBr:=Uf.out.trans ((below_drewN (Below.refl wr.heap.size wr) nq).mono Uf.out.size)
    have hS3:=HS.out.step (below_drewN (Below.refl wr.heap.size wr) nq)
    have ZK:=ownsRow_below Sz.out (below_drewN (Below.refl wr.heap.size wr) nq)
    generalize wr.drewN nq=W2 at *
    obtain ⟨t0,t1,t2⟩:=qJ.out W2 hBr
    have c1:=(hBr.cell (p:=⟨wx,0,none⟩) CC.out.w1).trans CC.out.c1
    have c2:=(hBr.cell (p:=⟨mx,0,none⟩) CC.out.w2).trans CC.out.c2
    obtain ⟨D,dn,hown,hDs,Vb⟩:=CC.out.num.ex
    have OI:iU ts (j:Int) < ts.length:=List.idxOf_lt_length_iff.2 ZJ.out
    have hkey:keyOf prog 3 (.int .i64 (j:Int))=some (.int .i64 (j:Int)):=keyOf_int_mk underlying3 (WalkArith.wf_i64 (by have:=CC.out.len; omega))
    have ZL:D.atKey (.int .i64 (j:Int)) (.lit (.int .i64 0))=.lit (.int .i64 (jQ first ts (j:Int))):=by
     have:=Vb (iU ts (j:Int)) OI
     rw [show ts[iU ts (j:Int)]=(j:Int) from List.getElem_idxOf OI] at this
     exact this
    have X7:Hid (∀ W,Below B.heap.size B W→(Instr.lookup 146 (.map (some mb)) (.int .i64 (j:Int)) false).run prog W=.ok (.int .i64 (jQ first ts (j:Int))) W):=hid fun W hW=>by
     obtain ⟨c,h1,h2,_⟩:=(hown.kept (grown_below hW none) (by simp)).lookup_int law3 underlying146 underlying3 (zero3 _) hkey
     rw [ZL] at h2
     have:jQ first ts (j:Int)=c:=by simpa using h2
     rw [this]; exact h1
    have SA:=hid OI
    have KZ:=hid hS3
    have HR3:=hid ZK
    have HB3:=hid hBr
    have e1:=X7.out W2.drew hBr.drew
    have e2:=fun o=>X7.out (W2.alloc o).drew (hBr.alloc (Nat.le_trans hBr.size (Nat.le_refl _)) o).drew
    have l1:wx < W2.heap.size:=Nat.lt_of_lt_of_le CC.out.w1 hBr.size
    have l2:mx < W2.heap.size:=Nat.lt_of_lt_of_le CC.out.w2 hBr.size
    have l3:gw < W2.heap.size:=Nat.lt_of_lt_of_le CC.out.w5 hBr.size
    have l4:¬ wx=W2.heap.size:=by omega
    have l5:¬ mx=W2.heap.size:=by omega
    have l6:¬ gw=W2.heap.size:=by omega
    clear hown hDs Vb OI hkey ZL hS3 hBr ZK
    have QY:IntKind.i64.wrap (jQ first ts (j:Int) - first)=(iU ts (j:Int):Int):=by
     exact IG first _ m (by rw [← CC.out.tl]; exact SA.out) CC.out.m9 CC.out.wf
    have SB:iU ts (j:Int) < m:=by rw [← CC.out.tl]; exact SA.out
    obtain ⟨ov,o0,o1,o2,o3,o4⟩:=KZ.out.full _ SB
    have g0:=KZ.out.ofz (iU ts (j:Int) * 5)
    have g1:=KZ.out.ofz (iU ts (j:Int) * 5+1)
    have g2:=KZ.out.ofz (iU ts (j:Int) * 5+2)
    have g3:=KZ.out.ofz (iU ts (j:Int) * 5+3)
    have g4:=KZ.out.ofz (iU ts (j:Int) * 5+4)
    have c3:=(HB3.out.cell (p:=⟨fx,0,none⟩) CC.out.w3).trans CC.out.c3
    have c4:=(HB3.out.cell (p:=⟨qx,0,none⟩) CC.out.w4).trans CC.out.c4
    have c5:W2.cell? ⟨ox,0,none⟩=some (.slice (some ⟨oa,0,none⟩) m m):=(World.cell?_of_block (KZ.out.far ox CC.out.oxl X3 CC.out.ne1)).trans CC.out.c5
    have r5:(0:Int)≤(iU ts (j:Int):Int):=by omega
    have r6:(iU ts (j:Int):Int) < (m:Int):=by omega
    have Vd:=hid SB
    clear SB
    obtain ⟨id,hqd⟩:∃ id,id=iU ts (j:Int):=⟨_,rfl⟩
    have Ve:=hid hqd
    obtain ⟨num,hnum⟩:∃ num,num=jQ first ts (j:Int):=⟨_,rfl⟩
    have X8:=hid hnum
    rw [← hqd] at QY o0 o1 o2 o3 o4 g0 g1 g2 g3 g4 r5 r6 Vd SA
    rw [← hnum] at QY e1 X7
    simp only [← hnum] at e2
    clear hqd hnum
    clear HTE
    generalize L[j].k=tk at *
    generalize L[j].a=ta at *
    generalize L[j].e=te at *
    go_region
    obtain ⟨W4,WM⟩:∃ W4,W4=(W2.alloc (.cells #[.int .i64 tk,.int .i64 (ta:Int),.int .i64 (te:Int)] 119)).drew:=⟨_,rfl⟩
    have hb4:Below W2.heap.size W2 W4:=by rw [WM]; exact ((Below.refl _ _).alloc (Nat.le_refl _) _).drew
    have WN:W4.heap[W2.heap.size]?=some (.cells #[.int .i64 tk,.int .i64 (ta:Int),.int .i64 (te:Int)] 119):=by rw [WM]; exact heap_alloc_new W2 _
    rw [← WM]
    obtain ⟨tb,htb⟩:∃ tb,tb=W2.heap.size:=⟨_,rfl⟩
    rw [← htb] at WN ⊢
    have k1:W4.cell? ⟨tb,1,none⟩=some (.int .i64 (ta:Int)):=cell_of_heap WN 1
    have k2:W4.cell? ⟨tb,2,none⟩=some (.int .i64 (te:Int)):=cell_of_heap WN 2
    have Vf:oa < W2.heap.size:=Nat.lt_of_lt_of_le KZ.out.l2 KZ.out.size
    have Vg:ox < W2.heap.size:=Nat.lt_of_lt_of_le CC.out.oxl KZ.out.size
    have hS4:=KZ.out.step hb4
    obtain ⟨o0,o1,o2,o3,o4⟩:gz W4 oa (id * 5) ov:=gz.ext ⟨o0,o1,o2,o3,o4⟩ fun j _=>hb4.cell (p:=⟨oa,_,none⟩) Vf
    have g0:=hS4.ofz (id * 5)
    have g1:=hS4.ofz (id * 5+1)
    have g2:=hS4.ofz (id * 5+2)
    have g3:=hS4.ofz (id * 5+3)
    have g4:=hS4.ofz (id * 5+4)
    have hB4:=HB3.out.trans (hb4.mono HB3.out.size)
    have c3:=(hB4.cell (p:=⟨fx,0,none⟩) CC.out.w3).trans CC.out.c3
    have c4:=(hB4.cell (p:=⟨qx,0,none⟩) CC.out.w4).trans CC.out.c4
    have c5:=(hb4.cell (p:=⟨ox,0,none⟩) Vg).trans c5
    have X9:=hid hS4
    have HR4:=hid (ownsRow_below HR3.out hb4)
    have HB4:=hid hB4
    clear WM hb4 WN htb Vf Vg hS4 hB4 e1 e2 t0 t1 t2 c1 c2 l1 l2 l3 l4 l5 l6
    have HTH:Hid (W4.there oa (id * 5) 5):=hid (fun q hq=>by
     match q,hq with
     | 0,_=>exact ⟨by rw [Nat.add_zero,o0]; rfl,g0⟩
     | 1,_=>exact ⟨by rw [o1]; rfl,g1⟩
     | 2,_=>exact ⟨by rw [o2]; rfl,g2⟩
     | 3,_=>exact ⟨by rw [o3]; rfl,g3⟩
     | 4,_=>exact ⟨by rw [o4]; rfl,g4⟩)
    have Vh:(prog.info? 41).map (·.size)=some 5:=by kernel_rfl
    have Ya:=hid Vh
    clear o0 o1 o2 o3 o4 g0 g1 g2 g3 g4 Vh
    have WO:Hid (W0.heap.size≤W4.heap.size):=hid X9.out.size
    have HXI:Hid (all[i]?=some (id,⟨file,(ta:Int),(te:Int),rsp,rdec⟩)):=hid (by
     rw [KY.out,List.getElem?_mapIdx,HX.out]
     simp only [Option.map_some,Option.some.injEq,Prod.mk.injEq]
     exact ⟨Ve.out.symm,X6.out⟩)
    have hnot:∀ u,(id,u) ∉ all.take i:=fun u hu=>by
     obtain ⟨q,hq,hqe⟩:=List.mem_iff_getElem.1 hu
     have WP:q < i:=by have:=hq; simp at this; omega
     have h1:all[q]?=some (id,u):=by
      rw [← hqe,List.getElem_take]; exact List.getElem?_eq_getElem _
     rw [KY.out,List.getElem?_mapIdx] at h1
     obtain ⟨z,hz1,hz2⟩:=Option.map_eq_some_iff.1 h1
     have hz3:iU ts z=id:=(Prod.mk.inj hz2).1
     obtain ⟨zq,rfl⟩:=List.getElem?_eq_some_iff.1 hz1
     have e1:ts[iU ts ns[q]]?=some ns[q]:=qg (WL.out _ (List.getElem_mem zq)).1
     have e2:ts[iU ts (j:Int)]?=some (j:Int):=qg ZJ.out
     rw [hz3,Ve.out,e2] at e1
     obtain ⟨xi,hxi⟩:=List.getElem?_eq_some_iff.1 HX.out
     have:ns[q]=ns[i]'xi:=by rw [hxi]; exact (Option.some.inj e1).symm
     have:=(List.getElem_inj Kq.out).1 this
     omega
    have hS5:=X9.out.setOcc id Vd.out ⟨file,(ta:Int),(te:Int),rsp,rdec⟩ hnot
    have Yb:(W4.setCells oa (id * 5) (jr.cells ⟨file,(ta:Int),(te:Int),rsp,rdec⟩)).ownsRow W0.heap.size 3 1 (.slice np' i nc') i (((ns.take i).map (jQ first ts)).map mkI):=HR4.out.kept (jO oa _ _ _) (Or.inr (fun e=>by have:=(HR4.out.lt _ e).1; have:=X9.out.l2; omega))
    have e5:jr.cells ⟨file,(ta:Int),(te:Int),rsp,rdec⟩=[.int .i64 file,.int .i64 (ta:Int),.int .i64 (te:Int),.int .i64 rsp,.bool rdec]:=rfl
    rw [e5] at hS5 Yb
    have QZ:=hid hS5
    have mY:=hid Yb
    obtain ⟨W5,Yc⟩:∃ W5,W5=W4.setCells oa (id * 5) [.int .i64 file,.int .i64 (ta:Int),.int .i64 (te:Int),.int .i64 rsp,.bool rdec]:=⟨_,rfl⟩
    have HW5:=hid Yc
    rw [← Yc] at QZ mY
    obtain ⟨n0,n1,n2,n3,n4,n5⟩:=QZ.out.node
    dsimp only at n4
    have z4:=QZ.out.nfz (no+4)
    have aaZ:nb < W5.heap.size:=Nat.lt_of_lt_of_le QZ.out.l1 QZ.out.size
    have aa0:W0.heap.size≤W5.heap.size:=QZ.out.size
    obtain ⟨i0,hi0,hy0,hy1,hy2⟩:=info_parts info3
    have hi6:i≤1000000:=by omega
    clear hnot hS5 Yb e5 Yc n0 n1 n2 n3 n5
    have tok1:True:=trivial
    go_wp2_with (first
     | (refine wpList_store_mid rfl 41 (.tmp 100) (.tmp 99) rfl oa (id * 5) #[.int .i64 file,.int .i64 (ta:Int),.int .i64 (te:Int),.int .i64 rsp,.bool rdec] rfl rfl HTH.out Ya.out (by simp [Value.oneCell']) ?_; show wpList _ _ _ _ _ (W4.setCells oa (id * 5) [.int .i64 file,.int .i64 (ta:Int),.int .i64 (te:Int),.int .i64 rsp,.bool rdec]); rw [← HW5.out])
     | (at_builtin; refine wpList_append_lies _ rfl _ _ 23 rfl W0.heap.size 3 i0 _ 1 8 underlying23 hi0 hy0 hy1 hy2 rfl (by omega) _ i _ rfl (World.ownsRow.alloc mY.out _) ⟨W5.heap.size,0,none⟩ 1 1 [.int .i64 num] rfl rfl sW (by simp [Value.oneCell']) (by omega) (by unfold maxLen; omega) (by omega) (by simp; omega) (W5.heap.size+1) (by simp) ?_; intro g2 cc2 w6 hown6 hgrow6 Yd Vj; have hga:=(Below.refl W5.heap.size W5).alloc (Nat.le_refl _) (.cells #[.int .i64 num] 3); have hS6:=(QZ.out.step hga).grow hgrow6 (fun q hq=>by have:=(mY.out.lt q (by rw [← hq]; rfl)).1; exact this); have HS6:=hid hS6; have Uy:=hid hown6; have EH:=hid Vj; obtain ⟨n60,n61,n62,n63,n64,n65⟩:=hS6.node; have z6:=hS6.nfz (no+4); dsimp only at n64; clear hga hS6 hown6 hgrow6 Yd n60 n61 n62 n63 n65 n4 z4 Vj)
     | go_in)
    go_roundw
    case rel =>
     refine ⟨i+1,by omega,by go_num,some ⟨g2,0,none⟩,cc2,hid ?_,hid ?_⟩
     ·have h7:=HS6.out.set4 (some ⟨g2,0,none⟩) (i+1) cc2 ((ns.take (i+1)).map (jQ first ts))
      obtain ⟨xi,hxi⟩:=List.getElem?_eq_some_iff.1 HXI.out
      rw [List.take_succ_eq_append_getElem xi,hxi]
      exact h7
     ·have e8:((ns.take (i+1)).map (jQ first ts)).map mkI=((ns.take i).map (jQ first ts)).map mkI++[.int .i64 num]:=by
       obtain ⟨xi,hxi⟩:=List.getElem?_eq_some_iff.1 HX.out
       rw [List.take_succ_eq_append_getElem xi,hxi]
       simp [X8.out]
      rw [e8]
      exact P6 Uy.out QZ.out.l1
    case measure=>simp [intOf]; omega
   ·have he:i=nn:=by omega
    subst he
    go_wp2_with fail
    go_ret
    have e9:all.take i=all:=List.take_of_length_le (by rw [KY.out]; simp [H9.out])
    have e8:ns.take i=ns:=List.take_of_length_le (by rw [H9.out]; exact Nat.le_refl _)
    rw [e8] at HS Sz
    rw [e9] at HS
    exact ⟨rfl,np',nc',HS.out,Sz.out⟩
end Go.Proofs.YtmpmfamiegpmgaaGreatDoor
