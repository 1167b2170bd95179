/-
  Lower's closure: a part's node is filled, its names become occurrences.
-/
import Derived.Test.YtmpmfamiegpmgaaGreatDoorFV
import Derived.BigRegion
import Derived.Deep.RegionHeld3
import Derived.Deep.RegionWith
import Derived.Deep.Cut
import Derived.Deep.MidRow
import Derived.Deep.AppendLies
namespace Go.Proofs.YtmpmfamiegpmgaaGreatDoor
open Go.RowKit Go.Maps
set_option maxRecDepth 20000
set_option linter.unusedVariables false
set_option linter.unusedSimpArgs false

abbrev zeroHd:Hd:=⟨0,0,0,0,none,0,0,[],none,0,0⟩
/-- Where tokens that are names have their numbers. -/
def idxT (ts:List Int) (t:Int):Nat:=ts.idxOf t
theorem idx_get {ts:List Int} {t:Int} (h:t ∈ ts):ts[idxT ts t]?=some t:=by
 unfold idxT
 rw [List.getElem?_eq_getElem (List.idxOf_lt_length_iff.2 h)]
 exact congrArg some (List.getElem_idxOf _)
def numT (first:Int) (ts:List Int) (t:Int):Int:=wrap64 (first+(idxT ts t:Int))
/-- The occurrence of the name i of a part. -/
def occT (L:List Tok) (file k:Int) (n i:Nat) (t:Int):OccV:=⟨file,(L[t.toNat]?.map fun x=>(x.a:Int)).getD 0,(L[t.toNat]?.map fun x=>(x.e:Int)).getD 0,(roleP k i n).1,(roleP k i n).2⟩
theorem wrap_back (first:Int) (k m:Nat) (hk:k < m) (hm:m≤10000000) (h:(Lit.int .i64 first).wf=true):IntKind.i64.wrap (wrap64 (first+(k:Int)) - first)=(k:Int):=by
 simp only [wrap64,IntKind.wrap_i64]
 omega
/-- What Lower's closure reads. -/
structure LwC (B W0:World) (wx mx fx qx ox oa gw gc mb m:Nat) (L:List Tok) (first file:Int) (ts:List Int):Prop where
 hB:Below B.heap.size B W0
 w1:wx < B.heap.size
 w2:mx < B.heap.size
 w3:fx < B.heap.size
 w4:qx < B.heap.size
 w5:gw < B.heap.size
 c1:B.cell? ⟨wx,0,none⟩=some (.slice (some ⟨gw,0,none⟩) L.length gc)
 c2:B.cell? ⟨mx,0,none⟩=some (.map (some mb))
 c3:B.cell? ⟨fx,0,none⟩=some (.int .i64 file)
 c4:B.cell? ⟨qx,0,none⟩=some (.int .i64 first)
 tok:TokCells B gw L
 cap:L.length≤gc
 len:L.length≤1000001
 num:Numd B mb first ts
 rise:Rises ts
 tl:ts.length=m
 m9:m≤10000000
 wf:(Lit.int .i64 first).wf=true
 ne1:ox≠oa
 ox0:B.heap.size≤ox
 oa0:B.heap.size≤oa
 oxl:ox < W0.heap.size
 c5:W0.cell? ⟨ox,0,none⟩=some (.slice (some ⟨oa,0,none⟩) m m)

set_option maxHeartbeats 8000000 in
theorem lower1_any (B W0:World) (wx mx fx qx ox oa gw gc mb m nb no lb lo:Nat) (L:List Tok) (first file:Int) (ts:List Int) (C:LwC B W0 wx mx fx qx ox oa gw gc mb m L first file ts)
  (e:BA) (hg:e.Good B) (hl1:W0.cell? ⟨lb,lo,none⟩=some (.pointer (some ⟨e.b,e.o,none⟩))) (hl2:W0.cell? ⟨lb,lo+1,none⟩=some (.pointer (some ⟨nb,no,none⟩))) (hlb:lb < W0.heap.size)
  (hlnb:lb≠nb) (hloa:lb≠oa) (honb:ox≠nb) (s0:LcS B.heap.size W0 W0 nb no oa m zeroHd [])
  (hf0:0≤e.y.h.f) (hft:e.y.h.f≤e.y.h.t) (hfL:e.y.h.f < (L.length:Int)) (htL:e.y.h.t≤(L.length:Int)) (hk1:1≤e.y.h.k) (hk2:e.y.h.k≤44) (hmay:mayP e.y.h.k e.y.h.ns.length=true)
  (hns:∀ t ∈ e.y.h.ns,t ∈ ts∧0≤t∧t < (L.length:Int)) (hnd:e.y.h.ns.Nodup) (hnl:e.y.h.ns.length≤1000000) :
  Calls Tryz.prog 87 #[.pointer (some ⟨lb,lo,none⟩),.pointer (some ⟨wx,0,none⟩),.pointer (some ⟨mx,0,none⟩),.pointer (some ⟨fx,0,none⟩),.pointer (some ⟨ox,0,none⟩),.pointer (some ⟨qx,0,none⟩)] W0 fun x W' =>
   x=.returned (.bool true)∧∃ np nc,LcS B.heap.size W0 W' nb no oa m ⟨e.y.h.k,e.y.h.m,(spanP L e.y.h.f.toNat e.y.h.t.toNat).1,(spanP L e.y.h.f.toNat e.y.h.t.toNat).2,np,e.y.h.ns.length,nc,e.y.h.ns.map (numT first ts),none,0,0⟩
    (e.y.h.ns.mapIdx fun i t=>(idxT ts t,occT L file e.y.h.k e.y.h.ns.length i t))∧W'.ownsRow W0.heap.size 3 1 (.slice np e.y.h.ns.length nc) e.y.h.ns.length ((e.y.h.ns.map (numT first ts)).map mkI):=by
 obtain ⟨y,bb,bo⟩:=e
 have HAT:=Lib.hid (fun W (hW:Below B.heap.size B W)=>(hg.at_.step hg.lt hW))
 have HN:=Lib.hid ((lies_iff _ _).1 hg.lies).1
 obtain ⟨h,ks⟩:=y
 obtain ⟨hk,hm,hf,ht,np,nn,nc,ns,kp,kn,kc⟩:=h
 rw [show (Br.mk ⟨hk,hm,hf,ht,np,nn,nc,ns,kp,kn,kc⟩ ks).h=⟨hk,hm,hf,ht,np,nn,nc,ns,kp,kn,kc⟩ from rfl] at *
 dsimp only at *
 have CC:=Lib.hid C
 obtain ⟨f,rfl⟩:∃ f:Nat,hf=(f:Int):=⟨hf.toNat,by omega⟩
 obtain ⟨t,rfl⟩:∃ t:Nat,ht=(t:Int):=⟨ht.toNat,by omega⟩
 simp only [Int.toNat_natCast]
 have hnn:nn=ns.length:=HN.out.1
 rw [← hnn] at hmay hnl ⊢
 have HNN:=Lib.hid hnn
 obtain ⟨all,hall⟩:∃ all,all=ns.mapIdx fun i t=>(idxT ts t,occT L file hk nn i t):=⟨_,rfl⟩
 rw [← hall]
 have HALL:=Lib.hid hall
 obtain ⟨sp,hsp⟩:∃ sp,sp=spanP L f t:=⟨_,rfl⟩
 rw [← hsp]
 have HSPE:=Lib.hid hsp
 have HROLE:=Lib.hid (fun (i:Nat) (hi:i < nn) W=>role_any hk i nn hk1 hk2 hmay hi (by omega) W)
 have HNS:=Lib.hid hns
 have HND:=Lib.hid hnd
 clear hnn hall hsp hmay
 have hS0:=Lib.hid s0
 obtain ⟨a0,a1,a2,a3,a4,a5⟩:=HAT.out W0 C.hB
 obtain ⟨n0,n1,n2,n3,n4,n5⟩:=s0.node
 dsimp only at a0 a1 a2 a3 a4 a5 n0 n1 n2 n3 n4 n5
 have z0:=s0.nfz no
 have z1:=s0.nfz (no+1)
 have hne1:(⟨nb,no,none⟩:Addr)≠⟨nb,no+1,none⟩:=addr_ne (by omega)
 clear hg C hns hnd s0
 go_enter Tryz.func87,Tryz.ntmps87
 go_wp2_with fail
 go_quiet (fail)
 go_wp2_with fail
 go_region
 have hS1:=((hS0.out.step (below_drewN (Below.refl _ _) (nq+1))).set0 hk).set1 hm
 dsimp only at hS1
 obtain ⟨W1,hW1⟩:∃ W1,W1=((W0.drewN (nq+1)).setCell ⟨nb,no,none⟩ (.int .i64 hk)).setCell ⟨nb,no+1,none⟩ (.int .i64 hm):=⟨_,rfl⟩
 rw [← hW1] at hS1 ⊢
 clear hW1 a0 a1 a2 a3 a4 a5 n0 n1 n2 n3 n4 n5 z0 z1 hne1 hS0 hl1 hl2 hlb hlnb hloa
 have hB1:=CC.out.hB.trans hS1.bel
 obtain ⟨a0,a1,a2,a3,a4,a5⟩:=HAT.out W1 hB1
 obtain ⟨n0,n1,n2,n3,n4,n5⟩:=hS1.node
 dsimp only at a0 a1 a2 a3 a4 a5 n0 n1 n2 n3 n4 n5
 have c1:=(hB1.cell (p:=⟨wx,0,none⟩) CC.out.w1).trans CC.out.c1
 have z0:=hS1.nfz (no+2)
 have z1:=hS1.nfz (no+3)
 have hne1:(⟨nb,no+2,none⟩:Addr)≠⟨nb,no+3,none⟩:=addr_ne (by omega)
 have HSP:Hid (∀ W,Below B.heap.size B W→Calls Tryz.prog 88 #[.slice (some ⟨gw,0,none⟩) L.length gc,.int .i64 f,.int .i64 t] W fun e w'=>e=.returned (.tuple #[.int .i64 sp.1,.int .i64 sp.2])∧∃ m,w'=W.drewN m):=Lib.hid (fun W (hW:Below B.heap.size B W)=>by rw [HSPE.out]; exact span_any L gw gc f t W (CC.out.tok.step CC.out.w5 hW) (by omega) (by omega) (by omega) CC.out.cap (by have:=CC.out.len; omega))
 have HB1:=Lib.hid hB1
 have hS1':=Lib.hid hS1
 clear hB1 hS1
 go_wp2_with fail
 go_cut [8,9] from 16 (fun v8 v9 wc=>v8=.pointer (some ⟨bb,bo,none⟩)∧v9=.pointer (some ⟨nb,no,none⟩)∧LcS B.heap.size W0 wc nb no oa m ⟨hk,hm,sp.1,sp.2,none,0,0,[],none,0,0⟩ [])
 case first =>
  go_region_with (go_at_call 88; refine (HSP.out _ (by first | exact HB1.out | exact HB1.out.drew | exact below_drewN HB1.out _)).mono ?_; rintro e w' ⟨rfl,mm,rfl⟩)
  all_goals
   go_wp2_with fail
   go_meet
   case rel=>exact ⟨rfl,rfl,((hS1'.out.step (by first | exact below_drewN (Below.refl _ _) _ | exact (Below.refl _ _).drew)).set2 _).set3 _⟩
 case rest =>
  obtain ⟨rfl,rfl,hS2⟩:=hcut
  clear a0 a1 a2 a3 a4 a5 n0 n1 n2 n3 n4 n5 c1 z0 z1 hne1
  have hB2:=CC.out.hB.trans hS2.bel
  obtain ⟨a0,a1,a2,a3,a4,a5⟩:=HAT.out wc hB2
  dsimp only at a0 a1 a2 a3 a4 a5
  have HS2:=Lib.hid hS2
  clear hS2 hB2
  go_wp2_with fail
  clear a0 a1 a2 a3 a4 a5
  go_loopw [62] (fun iv wr=>∃ i:Nat,i≤nn∧iv=.int .i64 i∧∃ (np':Option Addr) (nc':Nat),Hid (LcS B.heap.size W0 wr nb no oa m ⟨hk,hm,sp.1,sp.2,np',i,nc',(ns.take i).map (numT first ts),none,0,0⟩ (all.take i))∧Hid (wr.ownsRow W0.heap.size 3 1 (.slice np' i nc') i (((ns.take i).map (numT first ts)).map mkI))) (fun iv _=>nn - (intOf iv).toNat)
  case atStart=>exact ⟨0,by omega,rfl,none,0,by simpa using HS2,Lib.hid ⟨rfl,.inl ⟨rfl,rfl⟩⟩⟩
  case round =>
   obtain ⟨i,hi,rfl,np',nc',HS,HROW⟩:=hrel
   by_cases hlt:i < nn
   ·obtain ⟨b1,off,rfl,hc1,hb1,hatn⟩:=HN.out.2.resolve_left (by omega)
    have hil:i < ns.length:=by rw [← HNN.out]; exact hlt
    have hBr:=CC.out.hB.trans HS.out.bel
    obtain ⟨x,hx⟩:∃ x,ns[i]?=some x:=⟨_,List.getElem?_eq_getElem hil⟩
    have q0:wr.cell? ⟨b1,off+i,none⟩=some (.int .i64 x):=by
     have:=(hatn.step hb1 hBr) i hil
     rw [this]
     have:=List.getElem?_eq_getElem hil
     rw [hx] at this
     rw [Option.some.inj this]
    obtain ⟨x0,x1,x2⟩:=HNS.out x (List.mem_of_getElem? hx)
    obtain ⟨j,rfl⟩:∃ j:Nat,x=(j:Int):=⟨x.toNat,by omega⟩
    have hjL:j < L.length:=by omega
    obtain ⟨a0,a1,a2,a3,a4,a5⟩:=HAT.out wr hBr
    dsimp only at a0 a1 a2 a3 a4 a5
    have HX:=Lib.hid hx
    have HBR:=Lib.hid hBr
    have r1:(0:Int)≤(i:Int):=by omega
    have r2:(i:Int) < (nn:Int):=by omega
    have r3:(0:Int)≤(j:Int):=by omega
    have r4:(j:Int) < (L.length:Int):=by omega
    have HR:=Lib.hid (HROLE.out i hlt)
    have HIDX:Hid (occT L file hk nn i (j:Int)=⟨file,(L[j].a:Int),(L[j].e:Int),(roleP hk i nn).1,(roleP hk i nn).2⟩):=Lib.hid (by simp [occT,hjL])
    have HJL:=Lib.hid hjL
    generalize roleP hk i nn=rp at *
    obtain ⟨rsp,rdec⟩:=rp
    clear hatn hx x1 x2 hBr hil
    have HTE:Hid (∃ ta te:Nat,L[j].a=ta∧L[j].e=te):=Lib.hid ⟨_,_,rfl,rfl⟩
    have HTK:=Lib.hid (fun W (hW:Below B.heap.size B W)=>(CC.out.tok.step CC.out.w5 hW) j hjL)
    have HXT:=Lib.hid x0
    clear x0
    go_wp2_with fail
    go_quiet (exact Calls.quiet_of_same ((HR.out _).mono fun e w' h=>⟨h.1,h.2.symm⟩))
    go_wp2_with fail
    have hBr:=HBR.out.trans ((below_drewN (Below.refl wr.heap.size wr) nq).mono HBR.out.size)
    have hS3:=HS.out.step (below_drewN (Below.refl wr.heap.size wr) nq)
    have hR3:=ownsRow_below HROW.out (below_drewN (Below.refl wr.heap.size wr) nq)
    generalize wr.drewN nq=W2 at *
    obtain ⟨t0,t1,t2⟩:=HTK.out W2 hBr
    have c1:=(hBr.cell (p:=⟨wx,0,none⟩) CC.out.w1).trans CC.out.c1
    have c2:=(hBr.cell (p:=⟨mx,0,none⟩) CC.out.w2).trans CC.out.c2
    obtain ⟨D,dn,hown,hDs,hDat⟩:=CC.out.num.ex
    have hil2:idxT ts (j:Int) < ts.length:=List.idxOf_lt_length_iff.2 HXT.out
    have hkey:keyOf Tryz.prog 3 (.int .i64 (j:Int))=some (.int .i64 (j:Int)):=keyOf_int_mk Tryz.underlying3 (WalkArith.wf_i64 (by have:=CC.out.len; omega))
    have hDj:D.atKey (.int .i64 (j:Int)) (.lit (.int .i64 0))=.lit (.int .i64 (numT first ts (j:Int))):=by
     have:=hDat (idxT ts (j:Int)) hil2
     rw [show ts[idxT ts (j:Int)]=(j:Int) from List.getElem_idxOf hil2] at this
     exact this
    have HLK:Hid (∀ W,Below B.heap.size B W→(Instr.lookup 146 (.map (some mb)) (.int .i64 (j:Int)) false).run Tryz.prog W=.ok (.int .i64 (numT first ts (j:Int))) W):=Lib.hid fun W hW=>by
     obtain ⟨c,h1,h2,_⟩:=(hown.kept (grown_below hW none) (by simp)).lookup_int law3 Tryz.underlying146 Tryz.underlying3 (zero3 _) hkey
     rw [hDj] at h2
     have:numT first ts (j:Int)=c:=by simpa using h2
     rw [this]; exact h1
    have HIL2:=Lib.hid hil2
    have HS3:=Lib.hid hS3
    have HR3:=Lib.hid hR3
    have HB3:=Lib.hid hBr
    have e1:=HLK.out W2.drew hBr.drew
    have e2:=fun o=>HLK.out (W2.alloc o).drew (hBr.alloc (Nat.le_trans hBr.size (Nat.le_refl _)) o).drew
    have l1:wx < W2.heap.size:=Nat.lt_of_lt_of_le CC.out.w1 hBr.size
    have l2:mx < W2.heap.size:=Nat.lt_of_lt_of_le CC.out.w2 hBr.size
    have l3:gw < W2.heap.size:=Nat.lt_of_lt_of_le CC.out.w5 hBr.size
    have l4:¬ wx=W2.heap.size:=by omega
    have l5:¬ mx=W2.heap.size:=by omega
    have l6:¬ gw=W2.heap.size:=by omega
    clear hown hDs hDat hil2 hkey hDj hS3 hBr hR3
    have hsubn:IntKind.i64.wrap (numT first ts (j:Int) - first)=(idxT ts (j:Int):Int):=by
     exact wrap_back first _ m (by rw [← CC.out.tl]; exact HIL2.out) CC.out.m9 CC.out.wf
    have hidm:idxT ts (j:Int) < m:=by rw [← CC.out.tl]; exact HIL2.out
    obtain ⟨ov,o0,o1,o2,o3,o4⟩:=HS3.out.full _ hidm
    have g0:=HS3.out.ofz (idxT ts (j:Int) * 5)
    have g1:=HS3.out.ofz (idxT ts (j:Int) * 5+1)
    have g2:=HS3.out.ofz (idxT ts (j:Int) * 5+2)
    have g3:=HS3.out.ofz (idxT ts (j:Int) * 5+3)
    have g4:=HS3.out.ofz (idxT ts (j:Int) * 5+4)
    have c3:=(HB3.out.cell (p:=⟨fx,0,none⟩) CC.out.w3).trans CC.out.c3
    have c4:=(HB3.out.cell (p:=⟨qx,0,none⟩) CC.out.w4).trans CC.out.c4
    have c5:W2.cell? ⟨ox,0,none⟩=some (.slice (some ⟨oa,0,none⟩) m m):=(World.cell?_of_block (HS3.out.far ox CC.out.oxl honb CC.out.ne1)).trans CC.out.c5
    have r5:(0:Int)≤(idxT ts (j:Int):Int):=by omega
    have r6:(idxT ts (j:Int):Int) < (m:Int):=by omega
    have HIDM:=Lib.hid hidm
    clear hidm
    obtain ⟨id,hid⟩:∃ id,id=idxT ts (j:Int):=⟨_,rfl⟩
    have HIDE:=Lib.hid hid
    obtain ⟨num,hnum⟩:∃ num,num=numT first ts (j:Int):=⟨_,rfl⟩
    have HNUM:=Lib.hid hnum
    rw [← hid] at hsubn o0 o1 o2 o3 o4 g0 g1 g2 g3 g4 r5 r6 HIDM HIL2
    rw [← hnum] at hsubn e1 HLK
    simp only [← hnum] at e2
    clear hid hnum
    clear HTE
    generalize L[j].k=tk at *
    generalize L[j].a=ta at *
    generalize L[j].e=te at *
    go_region
    obtain ⟨W4,hW4⟩:∃ W4,W4=(W2.alloc (.cells #[.int .i64 tk,.int .i64 (ta:Int),.int .i64 (te:Int)] 119)).drew:=⟨_,rfl⟩
    have hb4:Below W2.heap.size W2 W4:=by rw [hW4]; exact ((Below.refl _ _).alloc (Nat.le_refl _) _).drew
    have ht4:W4.heap[W2.heap.size]?=some (.cells #[.int .i64 tk,.int .i64 (ta:Int),.int .i64 (te:Int)] 119):=by rw [hW4]; exact heap_alloc_new W2 _
    rw [← hW4]
    obtain ⟨tb,htb⟩:∃ tb,tb=W2.heap.size:=⟨_,rfl⟩
    rw [← htb] at ht4 ⊢
    have k1:W4.cell? ⟨tb,1,none⟩=some (.int .i64 (ta:Int)):=Lib.cell_of_heap ht4 1
    have k2:W4.cell? ⟨tb,2,none⟩=some (.int .i64 (te:Int)):=Lib.cell_of_heap ht4 2
    have hoa2:oa < W2.heap.size:=Nat.lt_of_lt_of_le HS3.out.l2 HS3.out.size
    have hox2:ox < W2.heap.size:=Nat.lt_of_lt_of_le CC.out.oxl HS3.out.size
    have hS4:=HS3.out.step hb4
    obtain ⟨o0,o1,o2,o3,o4⟩:OccAt W4 oa (id * 5) ov:=OccAt.ext ⟨o0,o1,o2,o3,o4⟩ fun j _=>hb4.cell (p:=⟨oa,_,none⟩) hoa2
    have g0:=hS4.ofz (id * 5)
    have g1:=hS4.ofz (id * 5+1)
    have g2:=hS4.ofz (id * 5+2)
    have g3:=hS4.ofz (id * 5+3)
    have g4:=hS4.ofz (id * 5+4)
    have hB4:=HB3.out.trans (hb4.mono HB3.out.size)
    have c3:=(hB4.cell (p:=⟨fx,0,none⟩) CC.out.w3).trans CC.out.c3
    have c4:=(hB4.cell (p:=⟨qx,0,none⟩) CC.out.w4).trans CC.out.c4
    have c5:=(hb4.cell (p:=⟨ox,0,none⟩) hox2).trans c5
    have HS4:=Lib.hid hS4
    have HR4:=Lib.hid (ownsRow_below HR3.out hb4)
    have HB4:=Lib.hid hB4
    clear hW4 hb4 ht4 htb hoa2 hox2 hS4 hB4 e1 e2 t0 t1 t2 c1 c2 l1 l2 l3 l4 l5 l6
    have HTH:Hid (W4.there oa (id * 5) 5):=Lib.hid (fun q hq=>by
     match q,hq with
     | 0,_=>exact ⟨by rw [Nat.add_zero,o0]; rfl,g0⟩
     | 1,_=>exact ⟨by rw [o1]; rfl,g1⟩
     | 2,_=>exact ⟨by rw [o2]; rfl,g2⟩
     | 3,_=>exact ⟨by rw [o3]; rfl,g3⟩
     | 4,_=>exact ⟨by rw [o4]; rfl,g4⟩)
    have hi41:(Tryz.prog.info? 41).map (·.size)=some 5:=by kernel_rfl
    have HI41:=Lib.hid hi41
    clear o0 o1 o2 o3 o4 g0 g1 g2 g3 g4 hi41
    have HW4:Hid (W0.heap.size≤W4.heap.size):=Lib.hid HS4.out.size
    have HXI:Hid (all[i]?=some (id,⟨file,(ta:Int),(te:Int),rsp,rdec⟩)):=Lib.hid (by
     rw [HALL.out,List.getElem?_mapIdx,HX.out]
     simp only [Option.map_some,Option.some.injEq,Prod.mk.injEq]
     exact ⟨HIDE.out.symm,HIDX.out⟩)
    have hnot:∀ u,(id,u) ∉ all.take i:=fun u hu=>by
     obtain ⟨q,hq,hqe⟩:=List.mem_iff_getElem.1 hu
     have hql:q < i:=by have:=hq; simp at this; omega
     have h1:all[q]?=some (id,u):=by
      rw [← hqe,List.getElem_take]; exact List.getElem?_eq_getElem _
     rw [HALL.out,List.getElem?_mapIdx] at h1
     obtain ⟨z,hz1,hz2⟩:=Option.map_eq_some_iff.1 h1
     have hz3:idxT ts z=id:=(Prod.mk.inj hz2).1
     obtain ⟨zq,rfl⟩:=List.getElem?_eq_some_iff.1 hz1
     have e1:ts[idxT ts ns[q]]?=some ns[q]:=idx_get (HNS.out _ (List.getElem_mem zq)).1
     have e2:ts[idxT ts (j:Int)]?=some (j:Int):=idx_get HXT.out
     rw [hz3,HIDE.out,e2] at e1
     obtain ⟨xi,hxi⟩:=List.getElem?_eq_some_iff.1 HX.out
     have:ns[q]=ns[i]'xi:=by rw [hxi]; exact (Option.some.inj e1).symm
     have:=(List.getElem_inj HND.out).1 this
     omega
    have hS5:=HS4.out.setOcc id HIDM.out ⟨file,(ta:Int),(te:Int),rsp,rdec⟩ hnot
    have hR5:(W4.setCells oa (id * 5) (OccV.cells ⟨file,(ta:Int),(te:Int),rsp,rdec⟩)).ownsRow W0.heap.size 3 1 (.slice np' i nc') i (((ns.take i).map (numT first ts)).map mkI):=HR4.out.kept (grown_sets oa _ _ _) (Or.inr (fun e=>by have:=(HR4.out.lt _ e).1; have:=HS4.out.l2; omega))
    have e5:OccV.cells ⟨file,(ta:Int),(te:Int),rsp,rdec⟩=[.int .i64 file,.int .i64 (ta:Int),.int .i64 (te:Int),.int .i64 rsp,.bool rdec]:=rfl
    rw [e5] at hS5 hR5
    have HS5:=Lib.hid hS5
    have HR5:=Lib.hid hR5
    obtain ⟨W5,hW5⟩:∃ W5,W5=W4.setCells oa (id * 5) [.int .i64 file,.int .i64 (ta:Int),.int .i64 (te:Int),.int .i64 rsp,.bool rdec]:=⟨_,rfl⟩
    have HW5:=Lib.hid hW5
    rw [← hW5] at HS5 HR5
    obtain ⟨n0,n1,n2,n3,n4,n5⟩:=HS5.out.node
    dsimp only at n4
    have z4:=HS5.out.nfz (no+4)
    have hnb5:nb < W5.heap.size:=Nat.lt_of_lt_of_le HS5.out.l1 HS5.out.size
    have hz05:W0.heap.size≤W5.heap.size:=HS5.out.size
    obtain ⟨i0,hi0,hy0,hy1,hy2⟩:=info_parts info3
    have hi6:i≤1000000:=by omega
    clear hnot hS5 hR5 e5 hW5 n0 n1 n2 n3 n5
    have tok1:True:=trivial
    go_wp2_with (first
     | (refine wpList_store_mid rfl 41 (.tmp 100) (.tmp 99) rfl oa (id * 5) #[.int .i64 file,.int .i64 (ta:Int),.int .i64 (te:Int),.int .i64 rsp,.bool rdec] rfl rfl HTH.out HI41.out (by simp [Value.oneCell']) ?_; show wpList _ _ _ _ _ (W4.setCells oa (id * 5) [.int .i64 file,.int .i64 (ta:Int),.int .i64 (te:Int),.int .i64 rsp,.bool rdec]); rw [← HW5.out])
     | (at_builtin; refine wpList_append_lies _ rfl _ _ 23 rfl W0.heap.size 3 i0 _ 1 8 Tryz.underlying23 hi0 hy0 hy1 hy2 rfl (by omega) _ i _ rfl (World.ownsRow.alloc HR5.out _) ⟨W5.heap.size,0,none⟩ 1 1 [.int .i64 num] rfl rfl one_new (by simp [Value.oneCell']) (by omega) (by unfold maxLen; omega) (by omega) (by simp; omega) (W5.heap.size+1) (by simp) ?_; intro g2 cc2 w6 hown6 hgrow6 hgg6 hlt6; have hga:=(Below.refl W5.heap.size W5).alloc (Nat.le_refl _) (.cells #[.int .i64 num] 3); have hS6:=(HS5.out.step hga).grow hgrow6 (fun q hq=>by have:=(HR5.out.lt q (by rw [← hq]; rfl)).1; exact this); have HS6:=Lib.hid hS6; have HO6:=Lib.hid hown6; have HZ6:=Lib.hid hlt6; obtain ⟨n60,n61,n62,n63,n64,n65⟩:=hS6.node; have z6:=hS6.nfz (no+4); dsimp only at n64; clear hga hS6 hown6 hgrow6 hgg6 n60 n61 n62 n63 n65 n4 z4 hlt6)
     | go_in)
    go_roundw
    case rel =>
     refine ⟨i+1,by omega,by go_num,some ⟨g2,0,none⟩,cc2,Lib.hid ?_,Lib.hid ?_⟩
     ·have h7:=HS6.out.set4 (some ⟨g2,0,none⟩) (i+1) cc2 ((ns.take (i+1)).map (numT first ts))
      obtain ⟨xi,hxi⟩:=List.getElem?_eq_some_iff.1 HXI.out
      rw [List.take_succ_eq_append_getElem xi,hxi]
      exact h7
     ·have e8:((ns.take (i+1)).map (numT first ts)).map mkI=((ns.take i).map (numT first ts)).map mkI++[.int .i64 num]:=by
       obtain ⟨xi,hxi⟩:=List.getElem?_eq_some_iff.1 HX.out
       rw [List.take_succ_eq_append_getElem xi,hxi]
       simp [HNUM.out]
      rw [e8]
      exact row_set HO6.out HS5.out.l1
    case measure=>simp [intOf]; omega
   ·have he:i=nn:=by omega
    subst he
    go_wp2_with fail
    go_ret
    have e9:all.take i=all:=List.take_of_length_le (by rw [HALL.out]; simp [HNN.out])
    have e8:ns.take i=ns:=List.take_of_length_le (by rw [HNN.out]; exact Nat.le_refl _)
    rw [e8] at HS HROW
    rw [e9] at HS
    exact ⟨rfl,np',nc',HS.out,HROW.out⟩
end Go.Proofs.YtmpmfamiegpmgaaGreatDoor
