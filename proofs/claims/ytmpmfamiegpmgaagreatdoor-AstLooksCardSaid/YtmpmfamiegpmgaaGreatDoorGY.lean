/-
  stands: a branch that is right, with no other tokens than there are.; stands, whole.; Lower, of a branch that parse has made: its node, and its occurrences.; ast.File: a file's node and its occurrences, or what is wrong with it.
-/
import Derived.Test.YtmpmfamiegpmgaaGreatDoorGF
import Derived.Test.YtmpmfamiegpmgaaGreatDoorGI
import Derived.Test.YtmpmfamiegpmgaaGreatDoorGK
import Derived.Test.YtmpmfamiegpmgaaGreatDoorGT
import Derived.Test.YtmpmfamiegpmgaaGreatDoorGX
import Derived.Test.YtmpmfamiegpmgaaGreatDoorGS
namespace Go.Proofs.YtmpmfamiegpmgaaGreatDoor
open Tryz
open Go.Lib (cell_of_heap hid)
open Go.RowKit
set_option maxRecDepth 20000
set_option linter.unusedVariables false
set_option linter.unusedSimpArgs false
def lq (f:Int):List Br→Nat→Int
 | _,0=>f
 | [],_+1=>f
 | b :: r,i+1=>lq b.h.t r i
theorem EE {t:Int} (ks:List Br):∀ f:Int,bQ f t (ks.map Br.pb)→(∀ i (h:i < ks.length),lq f ks i≤ks[i].h.f∧lq f ks (i+1)=ks[i].h.t)∧lq f ks ks.length≤t:=by
 induction ks with
 | nil=>intro f h; exact ⟨fun i h2=>absurd h2 (Nat.not_lt_zero i),by simpa [bQ,lq] using h⟩
 | cons b r ih =>
  intro f h;simp only [List.map_cons,bQ] at h;obtain ⟨h1,h2,h3⟩:=h;have hfr:b.pb.fr=b.h.f:=by cases b; simp [Br.pb,Pb.fr,Br.h]
  have hto:b.pb.to=b.h.t:=by cases b; simp [Br.pb,Pb.to,Br.h]
  rw [hto] at h3;rw [hfr] at h2;obtain ⟨g1,g2⟩:=ih _ h3;refine ⟨fun i hi=>?_,by simpa [lq] using g2⟩
  cases i with
  | zero=>exact ⟨by simpa [lq] using h2,by cases r <;> simp [lq]⟩
  | succ i=>exact g1 i (by simpa using hi)
set_option maxHeartbeats 4000000 in
theorem Ce (y:Br) (b o nb n:Nat) (w:World) (hl:y.Lies w) (hat:bP w b o y.h) (hb:b < w.heap.size) (hn:w.cell? ⟨nb,0,none⟩=some (.int .i64 n)) (hnb:nb < w.heap.size)
  (hf0:0≤y.h.f) (hf1:y.h.f < (n:Int)) (ht1:y.h.t≤(n:Int)) (hns:∀ x ∈ y.h.ns,y.h.f≤x∧x < y.h.t) (hch:bQ y.h.f y.h.t (y.ks.map Br.pb)) (Xg:n≤1000000000) (hs1:y.h.ns.length≤1000000) (hs2:y.ks.length≤1000000) :
  Calls prog 127 #[.pointer (some ⟨b,o,none⟩),.pointer (some ⟨nb,0,none⟩)] w fun e w'=>e=.returned (.bool true)∧Below w.heap.size w w':=by
 obtain ⟨hi1,hi2,_⟩:=(aO _ _).1 hl;obtain ⟨hfree,hend⟩:=EE y.ks _ hch;have HAT:=hid (fun W (hW:Below w.heap.size w W)=>(hat.step hb hW));have Af:=hid (fun W (hW:Below w.heap.size w W)=>(hW.cell (p:=⟨nb,0,none⟩) hnb).trans hn);have Xh:=hid hns;have qw:=hid hfree;have Hl:=hid hend;have HN:=hid hi1;have HK:=hid hi2;obtain ⟨h,ks⟩:=y;obtain ⟨hk,hm,hf,ht,np,nn,nc,ns,kp,kn,kc⟩:=h;rw [show (Br.mk ⟨hk,hm,hf,ht,np,nn,nc,ns,kp,kn,kc⟩ ks).h=⟨hk,hm,hf,ht,np,nn,nc,ns,kp,kn,kc⟩ from rfl,show (Br.mk ⟨hk,hm,hf,ht,np,nn,nc,ns,kp,kn,kc⟩ ks).ks=ks from rfl] at *;dsimp only at *
 have hnn:nn=ns.length:=hi1.1;have hkn:kn=ks.length:=hi2.1;have DI:=hid hnn;have Xl:=hid hkn;have hnl:nn≤1000000:=by omega
 have hkl:kn≤1000000:=by omega
 have g1:¬ hf < 0:=by omega
 have g2:¬ (n:Int)≤hf:=by omega
 have g3:¬ (n:Int) < ht:=by omega
 clear hi1 hi2 hfree hend hns hch hl hat hn hnn hkn hs1 hs2 hf0 hf1 ht1;obtain ⟨a0,a1,a2,a3,a4,a5⟩:=HAT.out w (Below.refl _ _);have b0:=Af.out w (Below.refl _ _)
 simp only at a0 a1 a2 a3 a4 a5
 go_enter func127,ntmps127
 go_wp2_with fail
 go_quiet (fail)
 go_wp2_with fail
 clear a0 a1 a2 a3 a4 a5 b0
 go_loopw [34] (fun iv wr=>∃ i:Nat,i≤nn∧iv=.int .i64 i∧Below w.heap.size w wr) (fun iv _=>nn - (intOf iv).toNat)
 case atStart=>exact ⟨0,by omega,rfl,by first | exact Below.refl _ _ | exact below_drewN (Below.refl _ _) _⟩
 case round =>
  obtain ⟨i,hi,rfl,hbe⟩:=hrel;have hz:=hbe.size;have mi:=hid hbe;obtain ⟨a0,a1,a2,a3,a4,a5⟩:=HAT.out wr hbe
  simp only at a0 a1 a2 a3 a4 a5
  clear hbe
  by_cases hlt:i < nn
  ·obtain ⟨b1,off,rfl,hc1,hb1,nN⟩:=HN.out.2.resolve_left (by omega)
   have hil:i < ns.length:=by rw [← DI.out]; exact hlt
   have q0:wr.cell? ⟨b1,off+i,none⟩=some (.int .i64 ns[i]):=(nN.step hb1 mi.out) i hil;obtain ⟨x1,x2⟩:=Xh.out ns[i] (List.getElem_mem hil);have y1:¬ ns[i] < hf:=by omega
   have y2:¬ ht≤ns[i]:=by omega
   have r1:(0:Int)≤(i:Int):=by omega
   have r2:(i:Int) < (nn:Int):=by omega
   clear nN x1 x2;generalize ns[i]=x at *
   go_wp2_with fail
   go_roundw
   case rel=>exact ⟨i+1,by omega,by go_num,by first | exact mi.out | exact below_drewN mi.out _⟩
   case measure=>simp [intOf]; omega
  ·have he:i=nn:=by omega
   subst he
   go_wp2_with fail
   clear a0 a1 a2 a3 a4 a5
   go_loopw [6,62] (fun fv iv wr=>∃ k:Nat,k≤kn∧iv=.int .i64 k∧fv=.int .i64 (lq hf ks k)∧Below w.heap.size w wr) (fun _ iv _=>kn - (intOf iv).toNat)
   case atStart=>exact ⟨0,by omega,rfl,by simp [lq],mi.out⟩
   case round =>
    obtain ⟨k,hk0,rfl,rfl,hbe⟩:=hrel;have hz:=hbe.size;have mi:=hid hbe;obtain ⟨a0,a1,a2,a3,a4,a5⟩:=HAT.out wr hbe
    simp only at a0 a1 a2 a3 a4 a5
    by_cases hlt2:k < kn
    ·obtain ⟨b1,off,rfl,hcap,hb1,KR⟩:=HK.out.2.resolve_left (by omega)
     have hkk:k < ks.length:=by rw [← Xl.out]; exact hlt2
     obtain ⟨d0,d1,d2,d3,d4,d5⟩:=(KR k hkk).step hb1 hbe;obtain ⟨x1,x2⟩:=qw.out k hkk;have Qq:=hid x2;have y1:¬ (ks[k]).h.f < lq hf ks k:=by omega
     have r1:(0:Int)≤(k:Int):=by omega
     have r2:(k:Int) < (kn:Int):=by omega
     clear KR x1 x2 hbe d0 d1 d4 d5;generalize lq hf ks k=fr at *;generalize (ks[k]).h.f=kf at *;generalize (ks[k]).h.t=kt at *
     go_wp2_with fail
     go_roundw
     case rel=>exact ⟨k+1,by omega,by go_num,by rw [Qq.out],mi.out⟩
     case measure=>simp [intOf]; omega
    ·have he:k=kn:=by omega
     subst he;have y1:lq hf ks k≤ht:=by rw [Xl.out]; exact Hl.out
     clear hbe;generalize lq hf ks k=fr at *
     go_wp2_with fail
     go_ret
     exact ⟨by simp [y1],mi.out⟩
theorem MM (y:Br) (n:Nat):y.pb.Rt→y.h.t≤(n:Int)→∀ z ∈ y.ks,z.pb.Rt∧z.h.t≤(n:Int):=by
 intro h1 h2 z hz;obtain ⟨h,ks⟩:=y;have hch:bQ h.f h.t (ks.map Br.pb):=by
  simp only [Br.pb,Pb.Rt,eF] at h1;exact h1.2.2.2.2
 replace h2:h.t≤(n:Int):=h2
 replace hz:z ∈ ks:=hz
 clear h1;generalize h.f=f at hch
 induction ks generalizing f with
 | nil=>cases hz
 | cons b r ih =>
  simp only [List.map_cons,bQ] at hch;have hto:b.pb.to=b.h.t:=by cases b; simp [Br.pb,Pb.to,Br.h]
  rcases List.mem_cons.1 hz with rfl | hz
  ·refine ⟨hch.1,?_⟩
   have:=hch.2.2.le
   rw [hto] at this
   omega
  ·exact ih hz _ hch.2.2
theorem zI (y:Br) (n:Nat):y.pb.Rt→y.h.t≤(n:Int)→∀ z ∈ y.flatB,z.pb.Rt∧z.h.t≤(n:Int):=by
 induction y using Br.ind with
 | hP h ks ih =>
  intro h1 h2 z hz;rw [cZ] at hz
  rcases List.mem_cons.1 hz with rfl | hz
  ·exact ⟨h1,h2⟩
  ·obtain ⟨k,hk,hz⟩:=oN hz
   obtain ⟨g1,g2⟩:=MM _ n h1 h2 k hk;exact ih k hk g1 g2 z hz
theorem ER (e0:BA) (n:Nat) (w:World) (hg:e0.Good w) (hrt:e0.y.pb.Rt) (ht:e0.y.h.t≤(n:Int)) (hf:∀ z ∈ e0.y.flatB,z.h.f < (n:Int)) (hsz:e0.y.flatB.length≤1000000) (Xg:n≤1000000000) (hfew:∀ z ∈ e0.y.flatB,z.h.ns.length≤1000000∧z.ks.length≤1000000) :
  Calls prog 83 #[.pointer (some e0.ad),.int .i64 n] w fun x w'=>x=.returned (.bool true)∧Below w.heap.size w w':=by
 have DD:Below w.heap.size w (w.alloc (.cells #[.int .i64 n] 3)):=(Below.refl w.heap.size w).alloc (Nat.le_refl _) _;have hcf:∀ args W,Sem.run prog (callFunc 127 args) W=.ok (.enter 127 args) W:=fun args W=>aV func127 (by kernel_rfl) (by kernel_rfl) args W
 have HP:=hid (vk e0 w (w.alloc (.cells #[.int .i64 n] 3)) hg (by omega) 127 #[.pointer (some ⟨w.heap.size,0,none⟩)] hcf
  (fun l g W=>Below w.heap.size w W∧w.heap.size < g∧w.heap.size < W.heap.size∧W.cell? ⟨w.heap.size,0,none⟩=some (.int .i64 n))
  (fun l g W W' g' ⟨h1,h2,h3,h4⟩ hgr hg'=>⟨dE h1 hgr (by omega),by rcases hg' with rfl | h; exact h2; omega,by have:=hgr.size; omega,by rw [World.cell?_of_block (hgr.block w.heap.size h3 (fun e=>by have:=Option.some.inj e; omega))]; exact h4⟩)
  (fun l g W h=>h.1)
  (fun l e r g W ⟨h1,h2,h3,h4⟩ hgl he hx=>by
   have hmem:e.y ∈ e0.y.flatB:=by rw [← hx]; simp
   obtain ⟨r1,r2⟩:=zI _ n hrt ht e.y hmem;have hw:=he.step h1;obtain ⟨f1,f2⟩:=hfew _ hmem;have hf1:=hf _ hmem;obtain ⟨y,b,o⟩:=e;obtain ⟨hd,ks⟩:=y;simp only [Br.pb,Pb.Rt,eF] at r1;refine (Ce (.mk hd ks) b o w.heap.size n W hw.lies hw.at_ hw.lt h4 h3 r1.2.1 hf1 r2 r1.2.2.2.1 r1.2.2.2.2 Xg f1 f2).mono ?_
   rintro x w' ⟨rfl,hb⟩;exact ⟨rfl,⟨h1.trans (hb.mono h1.size),h2,Nat.lt_of_lt_of_le h3 hb.size,(hb.cell (p:=⟨w.heap.size,0,none⟩) h3).trans h4⟩,hb.size,hb.block g hgl⟩)
  (fun W hW=>by
   have hs:(w.alloc (.cells #[.int .i64 n] 3)).heap.size=w.heap.size+1:=by simp
   have hWs:=hW.size;refine ⟨DD.trans (hW.mono DD.size),by omega,by omega,?_⟩
   rw [hW.cell (p:=⟨w.heap.size,0,none⟩) (by show w.heap.size < _; omega)];exact cell_of_heap (heap_alloc_new w (.cells #[.int .i64 n] 3)) 0))
 obtain ⟨a0,ha0⟩:∃ a0,a0=e0.ad:=⟨_,rfl⟩
 rw [← ha0] at HP ⊢;clear hcf hg hrt ht hf hsz hfew ha0 DD
 go_enter func83,ntmps83
 go_wp2_with fail
 refine HP.out.mono ?_
 rintro x W ⟨rfl,g,h1,_⟩;have HB:=hid h1;clear h1
 go_wp2_with fail
 go_ret
 exact ⟨rfl,HB.out⟩
open Go.RowKit Go.Maps
structure Ib (y0:Br) (L:List Tok):Prop where
 rt:y0.pb.Rt
 wt:y0.pb.wt≤1000000
 fl:∀ z ∈ y0.flatB,z.h.f < (L.length:Int)
 to:y0.h.t≤(L.length:Int)
 kd:∀ z ∈ y0.flatB,1≤z.h.k∧z.h.k≤44∧kQ z.h.k z.h.ns.length=true
 nd:(aS y0.flatB).Nodup
 inn:∀ t ∈ aS y0.flatB,0≤t∧t < (L.length:Int)
 len:L.length≤1000001
theorem uG (y:Br):(aS y.flatB).length+y.flatB.length≤y.pb.wt:=by
 induction y using Br.ind with
 | hP h ks ih =>
  have:(aS (aB ks)).length+(aB ks).length≤wtL (ks.map Br.pb):=by
   clear h
   induction ks with
   | nil=>simp [aS,aB,wtL]
   | cons x r ih2 =>
    have h1:=ih x (by simp);have h2:=ih2 (fun z hz=>ih z (by simp [hz]));simp only [aB,dG,List.length_append,List.map_cons,wtL]
    omega
  have e:aS ((Br.mk h ks).flatB)=h.ns++aS (aB ks):=by simp only [Br.flatB,aS,List.flatMap_cons,Br.h]
  rw [e];simp only [Br.flatB,List.length_cons,List.length_append,Br.pb,Pb.wt,eF]
  omega
theorem Ib.few {y0:Br} {L:List Tok} (h:Ib y0 L):∀ z ∈ y0.flatB,z.h.ns.length≤1000000∧z.ks.length≤1000000:=by
 have hf:=IG y0 h.wt
 have:∀ y:Br,y.Few→∀ z ∈ y.flatB,z.h.ns.length≤1000000∧z.ks.length≤1000000:=by
  intro y
  induction y using Br.ind with
  | hP h ks ih =>
   intro hf z hz;have hf2:=hf;simp only [Br.Few,fM] at hf2;rw [cZ] at hz
   rcases List.mem_cons.1 hz with rfl | hz
   ·exact ⟨hf2.1,hf2.2.1⟩
   ·obtain ⟨k,h1,h2⟩:=oN hz
    exact ih k h1 (hf2.2.2 k h1) z h2
 exact this y0 hf
theorem Ib.lowers {y0:Br} {L:List Tok} {ts:List Int} (h:Ib y0 L) (ht:∀ x:Int,x ∈ ts ↔ x ∈ aS y0.flatB):EZ y0 L ts:=by
 refine ⟨fun z hz=>?_,h.nd,fun t ht2=>⟨(ht t).2 ht2,h.inn t ht2⟩⟩
 obtain ⟨r1,r2⟩:=zI y0 L.length h.rt h.to z hz;obtain ⟨k1,k2,k3⟩:=h.kd z hz;obtain ⟨f1,f2⟩:=h.few z hz;have hf:=h.fl z hz;obtain ⟨hd,ks⟩:=z;simp only [Br.pb,Pb.Rt] at r1;exact ⟨r1.2.1,r1.2.2.1,hf,r2,k1,k2,k3,f1,f2⟩
theorem Tn:(prog.info? 41).map (fun i=>(i.zero,i.size,i.bytes))=some (some (.agg #[.int .i64 0,.int .i64 0,.int .i64 0,.int .i64 0,.bool false]),5,40):=by kernel_rfl
theorem TK (c:Nat) (hc:c≤10000000):∃ Z:Array Value,(∀ i j,i < c→j < 5→Z[i * 5+j]?=(#[.int .i64 0,.int .i64 0,.int .i64 0,.int .i64 0,.bool false]:Array Value)[j]?)∧∀ w,(Instr.makeSlice 27 (.int .i64 (c:Int)) (.int .i64 (c:Int))).run prog w=.ok (.slice (some ⟨w.heap.size,0,none⟩) c c) (w.alloc (.cells Z 41)):=by
 obtain ⟨i0,hi0,hy0,hy1,hy2⟩:=info_parts Tn;refine ⟨madeCells #[.int .i64 0,.int .i64 0,.int .i64 0,.int .i64 0,.bool false] (c * 5),fun i j hi hj=>vF #[.int .i64 0,.int .i64 0,.int .i64 0,.int .i64 0,.bool false] (c * 5) i j hj (by show i * 5+j < c * 5; omega),fun w=>?_⟩
 have:=run_make (P:=prog) w 27 41 i0 _ underlying27 hi0 hy0 .i64 .i64 c c (by omega) (Int.le_refl _) (by rw [hy2]; omega) (by omega)
 rw [hy1] at this;simp only [Int.toNat_natCast] at this;exact this
abbrev W9 (B:World) (Z:Array Value) (m bx:Nat):World :=
 (((B.alloc (.cells #[.int .i64 0,.int .i64 0,.int .i64 0,.int .i64 0,.slice none 0 0,.slice none 0 0] 26)).alloc (.cells Z 41)).alloc (.cells #[.slice (some ⟨B.heap.size+1,0,none⟩) m m] 27)).alloc (.cells #[.pointer (some ⟨bx,0,none⟩),.pointer (some ⟨B.heap.size,0,none⟩)] 151)
theorem Nv (B:World) (Z:Array Value) (m bx:Nat):(W9 B Z m bx).heap.size=B.heap.size+4∧(W9 B Z m bx).heap[B.heap.size]?=some (.cells #[.int .i64 0,.int .i64 0,.int .i64 0,.int .i64 0,.slice none 0 0,.slice none 0 0] 26)∧(W9 B Z m bx).heap[B.heap.size+1]?=some (.cells Z 41) ∧
  (W9 B Z m bx).heap[B.heap.size+2]?=some (.cells #[.slice (some ⟨B.heap.size+1,0,none⟩) m m] 27)∧(W9 B Z m bx).heap[B.heap.size+3]?=some (.cells #[.pointer (some ⟨bx,0,none⟩),.pointer (some ⟨B.heap.size,0,none⟩)] 151)∧Below B.heap.size B (W9 B Z m bx):=by
 refine ⟨by simp,?_,?_,?_,?_,((((Below.refl B.heap.size B).alloc (Nat.le_refl _) _).alloc (by simp) _).alloc (by simp; omega) _).alloc (by simp; omega) _⟩
 ·rw [heap_alloc_old _ _ (by simp; omega),heap_alloc_old _ _ (by simp; omega),heap_alloc_old _ _ (by simp)]; exact heap_alloc_new B _
 ·rw [heap_alloc_old _ _ (by simp),heap_alloc_old _ _ (by simp)]
  have:=heap_alloc_new (B.alloc (.cells #[.int .i64 0,.int .i64 0,.int .i64 0,.int .i64 0,.slice none 0 0,.slice none 0 0] 26)) (.cells Z 41)
  simp only [World.size_alloc] at this; exact this
 ·rw [heap_alloc_old _ _ (by simp)]
  have:=heap_alloc_new ((B.alloc (.cells #[.int .i64 0,.int .i64 0,.int .i64 0,.int .i64 0,.slice none 0 0,.slice none 0 0] 26)).alloc (.cells Z 41)) (.cells #[.slice (some ⟨B.heap.size+1,0,none⟩) m m] 27)
  simp only [World.size_alloc] at this; exact this
 ·have:=heap_alloc_new (((B.alloc (.cells #[.int .i64 0,.int .i64 0,.int .i64 0,.int .i64 0,.slice none 0 0,.slice none 0 0] 26)).alloc (.cells Z 41)).alloc (.cells #[.slice (some ⟨B.heap.size+1,0,none⟩) m m] 27)) (.cells #[.pointer (some ⟨bx,0,none⟩),.pointer (some ⟨B.heap.size,0,none⟩)] 151)
  simp only [World.size_alloc] at this; exact this
theorem O8 {B:World} {y0:Br} {wx mx fx qx gw gc mb m bx:Nat} {L:List Tok} {first file:Int} {ts:List Int} {Z:Array Value} (hg:(⟨y0,bx,0⟩:BA).Good B)
  (w1:wx < B.heap.size) (w2:mx < B.heap.size) (w3:fx < B.heap.size) (w4:qx < B.heap.size) (w5:gw < B.heap.size) (c1:B.cell? ⟨wx,0,none⟩=some (.slice (some ⟨gw,0,none⟩) L.length gc)) (c2:B.cell? ⟨mx,0,none⟩=some (.map (some mb)))
  (c3:B.cell? ⟨fx,0,none⟩=some (.int .i64 file)) (c4:B.cell? ⟨qx,0,none⟩=some (.int .i64 first)) (tok:jr B gw L) (cap:L.length≤gc) (len:L.length≤1000001) (num:PM B mb first ts) (rise:kL ts) (tl:ts.length=m) (m9:m≤10000000) (wf:(Lit.int .i64 first).wf=true)
  (hZ:∀ i j,i < m→j < 5→Z[i * 5+j]?=(#[.int .i64 0,.int .i64 0,.int .i64 0,.int .i64 0,.bool false]:Array Value)[j]?) :
  ∃ cls M,LS B y0 wx mx fx qx (B.heap.size+2) (B.heap.size+1) gw gc mb m B.heap.size L first file ts cls M [] [] [⟨y0,bx,0,B.heap.size+3,0,B.heap.size,0⟩] [⟨y0,bx,0,B.heap.size+3,0,B.heap.size,0⟩] (W9 B Z m bx).heap.size (W9 B Z m bx):=by
 obtain ⟨f0,f1,f2,f3,f4,f5⟩:=Nv B Z m bx;obtain ⟨cls,hcls⟩:∃ cls:Nat→Nat,cls=fun b=>if b=B.heap.size then 1 else if b=B.heap.size+1 then 4 else if b=B.heap.size+2 then 5 else if b=B.heap.size+3 then 3 else 0:=⟨_,rfl⟩
 have e1:cls B.heap.size=1:=by rw [hcls]; simp
 have e2:cls (B.heap.size+1)=4:=by rw [hcls]; simp
 have e3:cls (B.heap.size+2)=5:=by rw [hcls]; simp
 have e4:cls (B.heap.size+3)=3:=by rw [hcls]; simp
 have e5:cls (W9 B Z m bx).heap.size=0:=by rw [hcls,f0]; simp
 have cell:=fun b o (cs:Array Value) (t:TypeId) (h:(W9 B Z m bx).heap[b]?=some (Obj.cells cs t))=>cell_of_heap h o
 refine ⟨cls,fun b o=>if b=B.heap.size∧o=0 then some kE else none,⟨f5,w1,w2,w3,w4,w5,c1,c2,c3,c4,tok,cap,len,num,rise,tl,m9,wf,by omega,by omega,by omega,by omega,cell _ 0 _ _ f3⟩,fun b hb=>(by rw [hcls]; show (if b=B.heap.size then 1 else if b=B.heap.size+1 then 4 else if b=B.heap.size+2 then 5 else if b=B.heap.size+3 then 3 else 0)=0; rw [if_neg (by omega),if_neg (by omega),if_neg (by omega),if_neg (by omega)]),e5,by omega,e2,e3,by omega,⟨fun o=>?_,fun i hi=>?_⟩,fun b o h hm=>?_,fun e he=>?_,by simp,fun d hd=>(by cases hd),fun d hd=>(by cases hd),.inr ⟨_,List.mem_singleton.2 rfl,rfl,rfl,rfl⟩,fun z hz=>(by cases hz)⟩
 ·simp only [World.frozen?]; rw [f2]; simp
 ·have z:=hZ i
  exact ⟨⟨0,0,0,0,false⟩,(cell _ _ _ _ f2).trans (by have:=z 0 hi (by omega); rw [Nat.add_zero] at this; exact this),(cell _ _ _ _ f2).trans (z 1 hi (by omega)),(cell _ _ _ _ f2).trans (z 2 hi (by omega)),(cell _ _ _ _ f2).trans (z 3 hi (by omega)),(cell _ _ _ _ f2).trans (z 4 hi (by omega))⟩
 ·by_cases hb:b=B.heap.size∧o=0
  ·obtain ⟨rfl,rfl⟩:=hb
   have:h=kE:=by simpa using hm.symm
   subst this;exact ⟨⟨cell _ _ _ _ f1,cell _ _ _ _ f1,cell _ _ _ _ f1,cell _ _ _ _ f1,cell _ _ _ _ f1,cell _ _ _ _ f1⟩,by omega,e1,rfl,Nat.le_refl _,fun j=>(by simp only [World.frozen?]; rw [f1]; simp),⟨rfl,.inl rfl⟩,.inl rfl⟩
  ·have hm2:(if b=B.heap.size∧o=0 then some kE else none)=some h:=hm
   rw [if_neg hb] at hm2; cases hm2
 ·rw [List.mem_singleton.1 he]
  exact ⟨⟨hg,e4,by show B.heap.size+3 < _; omega,cell _ 0 _ _ f4,cell _ 1 _ _ f4⟩,by simp⟩
theorem WR {w:World} {g:Nat} {z0 z1 z2 z3 z4 z5:Value} (h:w.heap[g]?=some (.cells #[z0,z1,z2,z3,z4,z5] 26 (0,0))) (a0 a1 a2 a3 a4 a5:Value) :
  ((((((w.setCell ⟨g,0,none⟩ a0).setCell ⟨g,1,none⟩ a1).setCell ⟨g,2,none⟩ a2).setCell ⟨g,3,none⟩ a3).setCell ⟨g,4,none⟩ a4).setCell ⟨g,5,none⟩ a5).heap[g]?=some (.cells #[a0,a1,a2,a3,a4,a5] 26 (0,0)) ∧
  w.grownBy ((((((w.setCell ⟨g,0,none⟩ a0).setCell ⟨g,1,none⟩ a1).setCell ⟨g,2,none⟩ a2).setCell ⟨g,3,none⟩ a3).setCell ⟨g,4,none⟩ a4).setCell ⟨g,5,none⟩ a5) (some g):=by
 constructor
 ·have h1:=heap_setCell_same w g 0 _ _ a0 h
  have h2:=heap_setCell_same _ g 1 _ _ a1 h1;have h3:=heap_setCell_same _ g 2 _ _ a2 h2;have h4:=heap_setCell_same _ g 3 _ _ a3 h3;have h5:=heap_setCell_same _ g 4 _ _ a4 h4;have h6:=heap_setCell_same _ g 5 _ _ a5 h5;rw [h6]; rfl
 ·exact ae (ae (ae (ae (ae (aN g 0 a0) (aN g 1 a1)) (aN g 2 a2)) (aN g 3 a3)) (aN g 4 a4)) (aN g 5 a5)
def QZ (L:List Tok) (file:Int) (y0:Br) (ts:List Int) (W:World) (oa:Nat):Prop:=∀ i t,ts[i]?=some t→∃ z ∈ y0.flatB,∃ j:Nat,z.h.ns[j]?=some t∧gq W oa (i * 5) (wZ L file z.h.k z.h.ns.length j t)
set_option maxHeartbeats 4000000 in
theorem Ic (y0:Br) (s:ByteArray) (hs:s.size≤1000000) (file first:Int) (hwf:(Lit.int .i64 first).wf=true) (w:World) (hk:Kw w) (hl:y0.Lies w) (R:Ib y0 (bC s)) :
  Calls prog 53 #[y0.h.val,.string s,.int .i64 file,.int .i64 first] w fun x W'=>∃ (nd:Br) (oa m:Nat) (ts:List Int),x=.returned (.tuple #[nd.h.val,.slice (some ⟨oa,0,none⟩) m m,.bool true])∧nd.Lies W'∧nd.pb=tK (bC s) first ts y0 ∧
   kL ts∧ts.length=m∧(∀ x:Int,x ∈ ts ↔ x ∈ aS y0.flatB)∧oa < W'.heap.size∧QZ (bC s) file y0 ts W' oa∧Below w.heap.size w W'∧(nd.On fun q=>w.heap.size≤q)∧w.heap.size≤oa:=by
 have hpos:0 < (bC s).length:=by rw [lW]; simp
 obtain ⟨hd,hhd⟩:∃ hd,hd=y0.h:=⟨_,rfl⟩
 have Yz:=hid hhd;rw [← hhd];obtain ⟨hk0,hm0,hf0,ht0,np,nn,nc,ns,kp,kn,kc⟩:=hd;simp only [Hd.val];obtain ⟨W1,hW1⟩:∃ W1,W1=(((w.alloc (.cells #[.int .i64 hk0,.int .i64 hm0,.int .i64 hf0,.int .i64 ht0,.slice np nn nc,.slice kp kn kc] 96)).alloc (.cells #[.int .i64 file] 3)).alloc (.cells #[.int .i64 first] 3)).alloc (.cells #[.int .i64 0,.int .i64 0,.int .i64 0,.int .i64 0,.slice none 0 0,.slice none 0 0] 26):=⟨_,rfl⟩
 have hb1:Below w.heap.size w W1:=by
  rw [hW1];exact ((((Below.refl w.heap.size w).alloc (Nat.le_refl _) _).alloc (by simp) _).alloc (by simp; omega) _).alloc (by simp; omega) _
 have zT:=hid (hk.step hb1);have HLY:=hid (hl.step _ hb1);have HB1:=hid hb1;have z1:W1.heap.size=w.heap.size+1+1+1+1:=by rw [hW1]; simp
 have b0:W1.heap[w.heap.size]?=some (.cells #[.int .i64 hk0,.int .i64 hm0,.int .i64 hf0,.int .i64 ht0,.slice np nn nc,.slice kp kn kc] 96):=by
  rw [hW1,heap_alloc_old _ _ (by simp; omega),heap_alloc_old _ _ (by simp; omega),heap_alloc_old _ _ (by simp)]; exact heap_alloc_new w _
 have b1:W1.heap[w.heap.size+1]?=some (.cells #[.int .i64 file] 3):=by
  rw [hW1,heap_alloc_old _ _ (by simp),heap_alloc_old _ _ (by simp)]
  have:=heap_alloc_new (w.alloc (.cells #[.int .i64 hk0,.int .i64 hm0,.int .i64 hf0,.int .i64 ht0,.slice np nn nc,.slice kp kn kc] 96)) (.cells #[.int .i64 file] 3)
  simp only [World.size_alloc] at this; exact this
 have b2:W1.heap[w.heap.size+1+1]?=some (.cells #[.int .i64 first] 3):=by
  rw [hW1,heap_alloc_old _ _ (by simp)]
  have:=heap_alloc_new ((w.alloc (.cells #[.int .i64 hk0,.int .i64 hm0,.int .i64 hf0,.int .i64 ht0,.slice np nn nc,.slice kp kn kc] 96)).alloc (.cells #[.int .i64 file] 3)) (.cells #[.int .i64 first] 3)
  simp only [World.size_alloc] at this; exact this
 have b3:W1.heap[w.heap.size+1+1+1]?=some (.cells #[.int .i64 0,.int .i64 0,.int .i64 0,.int .i64 0,.slice none 0 0,.slice none 0 0] 26):=by
  rw [hW1]
  have:=heap_alloc_new (((w.alloc (.cells #[.int .i64 hk0,.int .i64 hm0,.int .i64 hf0,.int .i64 ht0,.slice np nn nc,.slice kp kn kc] 96)).alloc (.cells #[.int .i64 file] 3)).alloc (.cells #[.int .i64 first] 3)) (.cells #[.int .i64 0,.int .i64 0,.int .i64 0,.int .i64 0,.slice none 0 0,.slice none 0 0] 26)
  simp only [World.size_alloc] at this; exact this
 have zY:Hid ((⟨y0,w.heap.size,0⟩:BA).Good W1):=hid ⟨by
  show bP W1 w.heap.size 0 y0.h
  rw [← hhd];exact ⟨cell_of_heap b0 0,cell_of_heap b0 1,cell_of_heap b0 2,cell_of_heap b0 3,cell_of_heap b0 4,cell_of_heap b0 5⟩,HLY.out,by show w.heap.size < W1.heap.size; omega⟩
 have Gl:=hid (And.intro b1 (And.intro b2 b3));have HZ1:=hid z1;clear b0 b1 b2 b3;have HW:=hid (yu s hs W1 zT.out);have HR:=hid R;clear hhd hb1 hk hl
 go_enter func53,ntmps53
 go_wp2_with fail
 rw [← hW1];refine HW.out.mono ?_
 rintro x W2 ⟨v,rfl,hta,hb2⟩;obtain ⟨gw,gc,rfl,YA,abX,hgw,htc⟩:=hta.open hpos;have HTC:=hid htc;have HB2:=hid hb2;clear hta hb2 HW
 go_wp2_with fail
 have hb3:Below W2.heap.size W2 (W2.alloc (.cells #[.slice (some ⟨gw,0,none⟩) (bC s).length gc] 50)):=(Below.refl _ _).alloc (Nat.le_refl _) _;have hwx:=heap_alloc_new W2 (.cells #[.slice (some ⟨gw,0,none⟩) (bC s).length gc] 50);have z3:(W2.alloc (.cells #[.slice (some ⟨gw,0,none⟩) (bC s).length gc] 50)).heap.size=W2.heap.size+1:=by simp
 obtain ⟨W3,hW3⟩:∃ W3,W3=W2.alloc (.cells #[.slice (some ⟨gw,0,none⟩) (bC s).length gc] 50):=⟨_,rfl⟩
 obtain ⟨wx,Vr⟩:∃ wx,wx=W2.heap.size:=⟨_,rfl⟩
 rw [← hW3] at hb3 hwx z3 ⊢;rw [← Vr] at hwx z3 ⊢;have Sv:Below W1.heap.size W1 W3:=HB2.out.trans (hb3.mono HB2.out.size);have QO:=hid hwx;have YB:=hid (htc.step hgw hb3);have abY:gw < wx:=by omega
 have HST:=hid (ER ⟨y0,w.heap.size,0⟩ (bC s).length W3 (zY.out.step Sv) HR.out.rt HR.out.to HR.out.fl (by have:=uG y0; have:=HR.out.wt; show y0.flatB.length≤1000000; omega) (by have:=HR.out.len; omega) HR.out.few);have Ut:=HB2.out.size;have abZ:W1.heap.size≤wx:=by omega
 have Vs:=hid Sv;clear hb3 hwx htc hW3 Vr Sv hW1;refine HST.out.mono ?_
 rintro x W4 ⟨rfl,hb4⟩;have OI:=Vs.out.trans (hb4.mono Vs.out.size);have q2:W4.cell? ⟨w.heap.size+1+1,0,none⟩=some (.int .i64 first):=cell_of_heap ((OI.block _ (by omega)).trans Gl.out.2.1) 0;have Af:=hid (EY ⟨y0,w.heap.size,0⟩ first hwf W4 (zY.out.step OI) (by have:=uG y0; have:=HR.out.wt; show y0.flatB.length≤10000000; omega) HR.out.kd HR.out.nd (fun x hx=>by have:=HR.out.inn x hx; have:=HR.out.len; omega) (by have:=uG y0; have:=HR.out.wt; show (aS y0.flatB).length≤10000000; omega));have HB4:=hid hb4;have Vt:=hid OI;clear hb4 OI HST
 go_wp2_with fail
 refine Af.out.mono ?_
 rintro x W5 ⟨mb,ts,rfl,hmb,hrise,htl,htm,hnum,hb5⟩;have He:=Vt.out.trans (hb5.mono Vt.out.size);obtain ⟨m,hm⟩:∃ m,m=ts.length:=⟨_,rfl⟩
 have hm9:m≤1000000:=by have:=uG y0; have:=HR.out.wt; have h7:ts.length=(aS y0.flatB).length:=htl; omega
 obtain ⟨W6,Ub⟩:∃ W6,W6=W5.alloc (.cells #[.map (some mb)] 146):=⟨_,rfl⟩
 have hb6:Below W5.heap.size W5 W6:=by rw [Ub]; exact (Below.refl _ _).alloc (Nat.le_refl _) _
 have hmx:W6.heap[W5.heap.size]?=some (.cells #[.map (some mb)] 146):=by rw [Ub]; exact heap_alloc_new W5 _
 have z6:W6.heap.size=W5.heap.size+1:=by rw [Ub]; simp
 have QP:PM W6 mb first ts:=by
  obtain ⟨D,n,h1,h2,h3⟩:=hnum.ex;exact ⟨D,n,h1.kept (grown_below hb6 none) (by simp),h2,h3⟩
 have QQ:=hid QP;have KT:=hid hrise;have YC:=hid htm;have HM:=hid hm;have Uc:=hid hmx;have RP:=hid hb6;have Vu:=hid He;have mg:=hid hb5;obtain ⟨mx,YD⟩:∃ mx,mx=W5.heap.size:=⟨_,rfl⟩
 have ab1:=hid YD;clear hrise htl htm hnum QP hb5 He hm hmx hb6 Af q2 z1;obtain ⟨D0,n0,hown0,Vw,_⟩:=QQ.out.ex;obtain ⟨Z,hZ,hmk⟩:=TK m (by omega);have HZ:=hid hZ;have hDm:Maps.size D0=m:=by rw [Vw,HM.out]
 have KU:(W6.alloc (.cells #[.int .i64 0,.int .i64 0,.int .i64 0,.int .i64 0,.slice none 0 0,.slice none 0 0] 26)).ownsMap prog 3 (plainElem prog 3) mb n0 D0:=hown0.kept (World.grownBy_alloc W6 _ none) (by simp);rw [Ub] at KU;clear hZ hown0 Vw
 go_wp2_with (first
  | (at_len; refine wpList_len_own _ rfl _ 146 rfl 3 3 underlying146 _ mb n0 D0 rfl KU ?_; rw [hDm]; clear KU hDm))
 have z1:=HZ1.out;have hb16:Below W1.heap.size W1 W6:=Vu.out.trans (RP.out.mono Vu.out.size);have Vx:Below W4.heap.size W4 W6:=mg.out.trans (RP.out.mono mg.out.size);have OJ:Below W3.heap.size W3 W6:=HB4.out.trans (Vx.mono HB4.out.size);have s16:=hb16.size;have s36:=OJ.size;have z6:W6.heap.size=W5.heap.size+1:=by rw [Ub]; simp
 have hcellB:∀ b o (cs:Array Value) (t:TypeId),W1.heap[b]?=some (Obj.cells cs t)→W6.cell? ⟨b,o,none⟩=cs[o]?:=fun b o cs t h=>cell_of_heap ((hb16.block b (Array.getElem?_eq_some_iff.1 h).1).trans h) o
 obtain ⟨cls,M,tq⟩:=O8 (Z:=Z) (m:=m) (zY.out.step hb16) (wx:=wx) (mx:=W5.heap.size) (fx:=w.heap.size+1) (qx:=w.heap.size+1+1) (gw:=gw) (gc:=gc) (mb:=mb) (L:=bC s) (first:=first) (file:=file) (ts:=ts)
  (by omega) (by omega) (by omega) (by omega) (by omega) (by rw [OJ.cell (p:=⟨wx,0,none⟩) (by show wx < _; omega)]; exact cell_of_heap QO.out 0) (cell_of_heap Uc.out 0) (hcellB _ 0 _ _ Gl.out.1) (hcellB _ 0 _ _ Gl.out.2.1)
  (YB.out.step (by omega) OJ) YA HR.out.len QQ.out KT.out HM.out.symm (by omega) hwf HZ.out
 have Vy:=hid (IM (HR.out.lowers YC.out) (by have:=uG y0; have:=HR.out.wt; omega) _ rfl tq);have eW:(((((W5.alloc (.cells #[.map (some mb)] 146)).alloc (.cells #[.int .i64 0,.int .i64 0,.int .i64 0,.int .i64 0,.slice none 0 0,.slice none 0 0] 26)).alloc (.cells Z 41)).alloc (.cells #[.slice (some ⟨W5.heap.size+1+1,0,none⟩) m m] 27)).alloc (.cells #[.pointer (some ⟨w.heap.size,0,none⟩),.pointer (some ⟨W5.heap.size+1,0,none⟩)] 151))=W9 W6 Z m w.heap.size:=by
  unfold W9; rw [z6,Ub]
 rw [eW];have e3:W5.heap.size+1+1+1=W6.heap.size+2:=by omega
 have e4:W5.heap.size+1+1+1+1=W6.heap.size+3:=by omega
 rw [e4,e3];have OL:=hid hb16;have D5:=hid z6;clear eW e3 e4 tq hcellB hb16 Vx OJ hmk z6;refine Vy.out.mono ?_
 rintro x W10 ⟨rfl,g,cls2,M2,D2,tq⟩;have hroot:(y0,W6.heap.size,0) ∈ D2:=by
  rcases tq.root with h | ⟨e,he,_⟩
  ·exact h
  ·cases he
 obtain ⟨nd,hna,_,DJ,_⟩:=xY tq.nm tq.dt tq.old y0 _ _ hroot;obtain ⟨n0,n1,n2,n3,n4,n5⟩:=hna;have c5:=tq.c.c5;have hbW:=tq.c.hB;have z1:=HZ1.out;have s16:=OL.out.size;have hrx:W10.heap[w.heap.size+1+1+1]?=some (.cells #[.int .i64 0,.int .i64 0,.int .i64 0,.int .i64 0,.slice none 0 0,.slice none 0 0] 26):=(hbW.block _ (by omega)).trans ((OL.out.block _ (by omega)).trans Gl.out.2.2);obtain ⟨ndh,ndk⟩:=nd;obtain ⟨xk,xm,xf,xt,xnp,xnn,xnc,xns,xkp,xkn,xkc⟩:=ndh;simp only [Br.h,Nat.zero_add] at n0 n1 n2 n3 n4 n5;have d0:=cell_of_heap hrx 0;have d1:=cell_of_heap hrx 1;have d2:=cell_of_heap hrx 2;have d3:=cell_of_heap hrx 3;have d4:=cell_of_heap hrx 4;have d5:=cell_of_heap hrx 5;have dz:∀ o,W10.frozen? ⟨w.heap.size+1+1+1,o,none⟩=false:=fun o=>by simp [World.frozen?,hrx]
 have y0z:=dz 0;have y1z:=dz 1;have y2z:=dz 2;have y3z:=dz 3;have y4z:=dz 4;have y5z:=dz 5;have hnx:W6.heap.size=W5.heap.size+1:=D5.out;rw [hnx] at n0 n1 n2 n3 n4 n5 c5;have YE:=hid (And.intro n0 (And.intro n1 (And.intro n2 (And.intro n3 (And.intro n4 n5)))));have Oe:=hid hnx;have rC:=hid tq;have HNP:=hid DJ;have KW:=hid hroot;have DV:=hid hrx;simp only [List.getElem?_toArray,List.getElem?_cons_zero,List.getElem?_cons_succ] at d0 d1 d2 d3 d4 d5;clear tq DJ hroot hbW z1 s16 hrx dz hnx
 go_wp2_with fail
 go_region
 obtain ⟨h6a,h6b⟩:=WR DV.out (.int .i64 xk) (.int .i64 xm) (.int .i64 xf) (.int .i64 xt) (.slice xnp xnn xnc) (.slice xkp xkn xkc);generalize ((((((W10.setCell ⟨w.heap.size+1+1+1,0,none⟩ (.int .i64 xk)).setCell ⟨w.heap.size+1+1+1,1,none⟩ (.int .i64 xm)).setCell ⟨w.heap.size+1+1+1,2,none⟩ (.int .i64 xf)).setCell ⟨w.heap.size+1+1+1,3,none⟩ (.int .i64 xt)).setCell ⟨w.heap.size+1+1+1,4,none⟩ (.slice xnp xnn xnc)).setCell ⟨w.heap.size+1+1+1,5,none⟩ (.slice xkp xkn xkc))=W11 at *;have Vz:W10.grownBy W11.drew (some (w.heap.size+1+1+1)):=ae h6b (grown_below (Below.refl _ _).drew _);have h12:W11.drew.heap[w.heap.size+1+1+1]?=some (.cells #[.int .i64 xk,.int .i64 xm,.int .i64 xf,.int .i64 xt,.slice xnp xnn xnc,.slice xkp xkn xkc] 26):=h6a;generalize W11.drew=W12 at *;have p0:=cell_of_heap h12 0;have p1:=cell_of_heap h12 1;have p2:=cell_of_heap h12 2;have p3:=cell_of_heap h12 3;have p4:=cell_of_heap h12 4;have p5:=cell_of_heap h12 5;simp only [List.getElem?_toArray,List.getElem?_cons_zero,List.getElem?_cons_succ] at p0 p1 p2 p3 p4 p5;have Sz:=hid Vz;clear h6a h6b Vz h12 d0 d1 d2 d3 d4 d5 y0z y1z y2z y3z y4z y5z n0 n1 n2 n3 n4 n5 c5
 go_wp2_with fail
 refine bodyPost_ret (by simp [results,results53,go_sem,p0,p1,p2,p3,p4,p5,Result.andThen]; try rfl) rfl ?_
 have tq:=rC.out;have z1:=HZ1.out;have s16:=OL.out.size;have hfr:Fr cls2 W10 W12:=⟨Sz.out.size,fun b hb hc=>Sz.out.block b hb (fun e=>hc (by
  have:=Option.some.inj e
  rw [this]; exact tq.old _ (by omega)))⟩
 have YF:∀ b o h,M2 b o=some h→NAt W6 W12 cls2 b o h:=fun b o h hm=>(tq.nm b o h hm).fr hfr
 obtain ⟨nd2,q1,q2,q3,q4⟩:=xY YF tq.dt tq.old y0 _ _ KW.out;have hw6:w.heap.size≤W6.heap.size:=by have:=HB1.out.size; omega
 have YG:W6.heap.size < W10.heap.size:=by
  obtain ⟨h,e1,_⟩:=tq.dt _ KW.out;exact (tq.nm _ _ _ e1).lt
 have hnx1:cls2 W6.heap.size=1:=by
  obtain ⟨h,e1,_⟩:=tq.dt _ KW.out;exact (tq.nm _ _ _ e1).c1
 have ecell:∀ o,W12.cell? ⟨W6.heap.size,o,none⟩=W10.cell? ⟨W6.heap.size,o,none⟩:=fun o=>World.cell?_of_block (a:=⟨W6.heap.size,o,none⟩) (hfr.blk _ YG (by rw [hnx1]; decide))
 have eoa:∀ o,W12.cell? ⟨W6.heap.size+1,o,none⟩=W10.cell? ⟨W6.heap.size+1,o,none⟩:=fun o=>World.cell?_of_block (a:=⟨W6.heap.size+1,o,none⟩) (hfr.blk _ tq.oal (by rw [tq.c4]; decide))
 obtain ⟨m0,m1,m2,m3,m4,m5⟩:=YE.out;rw [← Oe.out] at m0 m1 m2 m3 m4 m5;obtain ⟨g0,g1,g2,g3,g4,g5⟩:=q1;rw [ecell] at g0 g1 g2 g3 g4 g5;simp only [Nat.zero_add] at g0 g1 g2 g3 g4 g5;rw [m0] at g0;rw [m1] at g1;rw [m2] at g2;rw [m3] at g3;rw [m4] at g4;rw [m5] at g5;simp only [Option.some.injEq,Value.int.injEq,Value.slice.injEq,true_and] at g0 g1 g2 g3 g4 g5;refine ⟨nd2,W6.heap.size+1,m,ts,?_,q2,q3,KT.out,HM.out.symm,YC.out,Nat.lt_of_lt_of_le tq.oal hfr.size,fun i t hi=>?_,?_,Br.On.mono (fun q hq=>Nat.le_trans hw6 hq) nd2 q4,by omega⟩
 ·rw [Oe.out]
  rw [g0,g1,g2,g3,g4.1,g4.2.1,g4.2.2,g5.1,g5.2.1,g5.2.2]
 ·have hmem:=(YC.out t).1 (List.mem_of_getElem? hi)
  obtain ⟨z,hz,hzt⟩:=List.mem_flatMap.1 hmem;obtain ⟨j,hj⟩:=List.mem_iff_getElem?.1 hzt;refine ⟨z,hz,j,hj,?_⟩
  have ho:=tq.occ z hz j t hj;have hidx:iG ts t=i:=by
   have h1:=qC (List.mem_of_getElem? hi);obtain ⟨a1,a2⟩:=List.getElem?_eq_some_iff.1 h1;obtain ⟨b1,b2⟩:=List.getElem?_eq_some_iff.1 hi;have hp:=List.pairwise_iff_getElem.1 KT.out
   rcases Nat.lt_trichotomy (iG ts t) i with h | h | h
   ·have:=hp _ _ a1 b1 h; omega
   ·exact h
   ·have:=hp _ _ b1 a1 h; omega
  rw [hidx] at ho;exact ho.ext fun j _=>eoa _
 ·have h10:Below w.heap.size w W10:=HB1.out.trans ((OL.out.trans (tq.c.hB.mono s16)).mono HB1.out.size)
  exact h10.grown Sz.out h10.size (fun j hj=>by have:=Option.some.inj hj; omega)
def yX (s:ByteArray) (a c:Int):Prop:=((fO s).2≠0∧a=(fO s).1∧c=(fO s).2) ∨
 ((fO s).2=0∧∃ S:Src,S.s=s∧S.ts=bC s∧S.Good∧((∃ n,gJ S (nG S)=.form n∧a=S.pl n∧c=9)∨(∃ n,gJ S (nG S)=.deep n∧a=S.pl n∧c=6)))
def En (s:ByteArray) (x:Pb) (n:Nat):Prop:=(fO s).2=0∧∃ S:Src,S.s=s∧S.ts=bC s∧S.Good∧gJ S (nG S)=.ok x n
structure Ef (s:ByteArray) (file first:Int) (y0:Br) (n:Nat) (v:Value) (oa m:Nat) (ts:List Int) (W:World):Prop where
 ok:En s y0.pb n
 node:∃ nd:Br,v=nd.h.val∧nd.Lies W∧nd.pb=tK (bC s) first ts y0
 rise:kL ts
 len:ts.length=m
 mem:∀ x:Int,x ∈ ts ↔ x ∈ aS y0.flatB
 oal:oa < W.heap.size
 occ:QZ (bC s) file y0 ts W oa
theorem xn (x:Int) (l:List Br):(aS l).count x=tN x l:=by
 induction l with
 | nil=>rfl
 | cons b r ih=>simp only [aS,List.flatMap_cons,List.count_append,tN] at *; omega
theorem La (S:Src) (y:Br):y.pb.Fit S→∀ z ∈ y.flatB,z.pb.Fit S:=by
 induction y using Br.ind with
 | hP h ks ih =>
  intro hf z hz;rw [cZ] at hz
  rcases List.mem_cons.1 hz with rfl | hz
  ·exact hf
  ·obtain ⟨k,h1,h2⟩:=oN hz
   simp only [Br.pb,Pb.Fit,eF,BJ] at hf;exact ih k h1 (hf.2 _ (List.mem_map.2 ⟨k,h1,rfl⟩)) z h2
theorem TP {S:Src} {x:Pb} {n:Nat} (h:gJ S (nG S)=.ok x n):x.Fit S:=by
 unfold gJ nG at h
 cases hx:jq S (fuel S) 0 with
 | ok y k =>
  rw [hx] at h;simp only [Out.bind] at h
  cases hz:(S.kd k == 0)
  ·rw [hz] at h; cases h
  ·rw [hz] at h
   simp only [cond_true] at h
   injection h with e1 e2
   subst e1;exact MG (fuel S) y k hx
 | form k=>rw [hx] at h; cases h
 | deep k=>rw [hx] at h; cases h
 | dry=>rw [hx] at h; cases h
theorem PI {s:ByteArray} (hs:s.size≤1000000) {y0:Br} {n:Nat} (hw:s.size≤300000) (h:En s y0.pb n):Ib y0 (bC s):=by
 obtain ⟨_,S,h1,h2,g,h3⟩:=h;have rt:=Ph g (by rw [h1]; exact h2) h3;rw [h1] at rt;have ft:=La S y0 (TP h3);have hL:(bC s).length≤s.size+1:=by
  rw [lW,List.length_append,List.length_singleton]
  have:=(xq s).2
  omega
 have hlen:=rt.len;have hto:y0.h.t=(n:Int):=by have h9:y0.pb.to=y0.h.t:=by { cases y0; simp [Br.pb,Pb.to,Br.h] }; rw [← h9]; exact rt.to
 refine ⟨rt.rt,by have:=rt.wt; omega,fun z hz=>?_,by omega,fun z hz=>?_,?_,fun t ht=>?_,by omega⟩
 ·obtain ⟨r1,r2⟩:=zI y0 n rt.rt (by omega) z hz
  obtain ⟨hd,ks⟩:=z;simp only [Br.pb,Pb.Rt] at r1;have a1:hd.f≤hd.t:=r1.2.2.1;have a2:hd.t≤(n:Int):=r2
  show hd.f < ((bC s).length:Int)
  omega
 ·have hf:=ft z hz
  obtain ⟨hd,ks⟩:=z;simp only [Br.pb,Pb.Fit] at hf;exact ⟨hf.1.1.1,hf.1.1.2,hf.1.2.1⟩
 ·rw [List.nodup_iff_count]
  intro a;rw [xn,xZ];exact rt.one a
 ·have hc:0 < (aS y0.flatB).count t:=List.count_pos_iff.2 ht
  rw [xn,xZ] at hc
  have:=rt.inn t hc
  omega
theorem BO {W:World} {g:Nat} {z:Array Value} {t:TypeId} (h:W.heap[g]?=some (.cells z t)) (hz:z.size=6):W.there g 0 6:=fun j hj=>by
 refine ⟨?_,by simp only [World.frozen?]; rw [h]; simp⟩
 rw [cell_of_heap h,Array.getElem?_eq_getElem (by omega)]
 rfl
theorem Nu {W:World} {g:Nat} (h:W.there g 0 6) (v0 v1 v2 v3 v4 v5:Value):(W.setCells g 0 [v0,v1,v2,v3,v4,v5]).cell? ⟨g,0,none⟩=some v0∧(W.setCells g 0 [v0,v1,v2,v3,v4,v5]).cell? ⟨g,1,none⟩=some v1∧(W.setCells g 0 [v0,v1,v2,v3,v4,v5]).cell? ⟨g,2,none⟩=some v2 ∧
  (W.setCells g 0 [v0,v1,v2,v3,v4,v5]).cell? ⟨g,3,none⟩=some v3∧(W.setCells g 0 [v0,v1,v2,v3,v4,v5]).cell? ⟨g,4,none⟩=some v4∧(W.setCells g 0 [v0,v1,v2,v3,v4,v5]).cell? ⟨g,5,none⟩=some v5:=by
 have hi:=World.cell?_setCells_in g [v0,v1,v2,v3,v4,v5] 0 W (fun j hj=>(h j hj).1);exact ⟨hi 0 (by show 0 < 6; omega),hi 1 (by show 1 < 6; omega),hi 2 (by show 2 < 6; omega),hi 3 (by show 3 < 6; omega),hi 4 (by show 4 < 6; omega),hi 5 (by show 5 < 6; omega)⟩
set_option maxHeartbeats 4000000 in
theorem EK (s:ByteArray) (hs:s.size≤300000) (file first:Int) (hwf:(Lit.int .i64 first).wf=true) (w:World) (hk:Kw w) :
  Calls prog 17 #[.string s,.int .i64 file,.int .i64 first] w fun x W'=>Below w.heap.size w W' ∧
   ((∃ a c,c≠0∧yX s a c∧x=.returned (.tuple #[zeroV,.slice none 0 0,.int .i64 a,.int .i64 c])) ∨
    (∃ y0 n v oa m ts,Ef s file first y0 n v oa m ts W'∧(∃ nd:Br,v=nd.h.val∧nd.Lies W'∧nd.pb=tK (bC s) first ts y0∧nd.On fun q=>w.heap.size≤q)∧w.heap.size≤oa∧x=.returned (.tuple #[v,.slice (some ⟨oa,0,none⟩) m m,.int .i64 0,.int .i64 0]))):=by
 have DD:Below w.heap.size w (w.alloc (.cells #[.int .i64 0,.int .i64 0,.int .i64 0,.int .i64 0,.slice none 0 0,.slice none 0 0] 26)):=(Below.refl _ _).alloc (Nat.le_refl _) _;have HP:=hid (Fa s (by omega) (w.alloc (.cells #[.int .i64 0,.int .i64 0,.int .i64 0,.int .i64 0,.slice none 0 0,.slice none 0 0] 26)) (hk.step DD));have HKA:=hid (hk.step DD);have hrx:=heap_alloc_new w (.cells #[.int .i64 0,.int .i64 0,.int .i64 0,.int .i64 0,.slice none 0 0,.slice none 0 0] 26);have zA:(w.alloc (.cells #[.int .i64 0,.int .i64 0,.int .i64 0,.int .i64 0,.slice none 0 0,.slice none 0 0] 26)).heap.size=w.heap.size+1:=by simp
 have DF:=hid DD;have DV:=hid hrx;clear DD hrx hk
 go_enter func17,ntmps17
 go_wp2_with fail
 obtain ⟨WA,hWA⟩:∃ WA,WA=w.alloc (.cells #[.int .i64 0,.int .i64 0,.int .i64 0,.int .i64 0,.slice none 0 0,.slice none 0 0] 26):=⟨_,rfl⟩
 rw [← hWA] at HP HKA DF DV zA ⊢;refine HP.out.mono ?_
 intro x W1 hsd;obtain ⟨k1,m1,f1,t1,np1,nn1,nc1,kp1,kn1,kc1,a1,c1,rfl⟩:=hsd.form;have hbB:Below W1.heap.size W1 (W1.alloc (.cells #[.int .i64 k1,.int .i64 m1,.int .i64 f1,.int .i64 t1,.slice np1 nn1 nc1,.slice kp1 kn1 kc1] 96)):=(Below.refl _ _).alloc (Nat.le_refl _) _;have hb1:=hsd.1;have hb2:=hb1.trans (hbB.mono hb1.size);have yI:(prog.info? 26).map (·.size)=some 6:=by kernel_rfl
 have VA:=hid yI;have VB:=(hb2.block w.heap.size (by omega)).trans DV.out;have HT2:=hid (BO VB rfl);have hcase:(c1≠0∧yX s a1 c1∧Value.agg #[.int .i64 k1,.int .i64 m1,.int .i64 f1,.int .i64 t1,.slice np1 nn1 nc1,.slice kp1 kn1 kc1]=zeroV)∨(c1=0∧∃ x n,En s x n∧RB WA x (.agg #[.int .i64 k1,.int .i64 m1,.int .i64 f1,.int .i64 t1,.slice np1 nn1 nc1,.slice kp1 kn1 kc1]) W1):=by
  obtain ⟨_,⟨h0,he⟩ | ⟨h0,S,e1,e2,g,hc⟩⟩:=hsd
  ·simp only [Ending.returned.injEq,Value.tuple.injEq,Array.mk.injEq,List.cons.injEq,Value.int.injEq,and_true,true_and] at he
   exact .inl ⟨by rw [he.2.2]; exact h0,.inl ⟨h0,he.2.1,he.2.2⟩,he.1⟩
  ·obtain ⟨x,n,v,o1,he,hr⟩ | ⟨n,o1,he⟩ | ⟨n,o1,he⟩:=hc
   ·simp only [Ending.returned.injEq,Value.tuple.injEq,Array.mk.injEq,List.cons.injEq,Value.int.injEq,and_true,true_and] at he
    exact .inr ⟨he.2.2,x,n,⟨h0,S,e1,e2,g,o1⟩,by rw [he.1]; exact hr⟩
   ·simp only [Ending.returned.injEq,Value.tuple.injEq,Array.mk.injEq,List.cons.injEq,Value.int.injEq,and_true,true_and] at he
    exact .inl ⟨by rw [he.2.2]; decide,.inr ⟨h0,S,e1,e2,g,.inl ⟨n,o1,he.2.1,he.2.2⟩⟩,he.1⟩
   ·simp only [Ending.returned.injEq,Value.tuple.injEq,Array.mk.injEq,List.cons.injEq,Value.int.injEq,and_true,true_and] at he
    exact .inl ⟨by rw [he.2.2]; decide,.inr ⟨h0,S,e1,e2,g,.inr ⟨n,o1,he.2.1,he.2.2⟩⟩,he.1⟩
 have Ea:=hid (DF.out.trans (hb1.mono DF.out.size));have Eb:=hid hbB;have HB1:=hid hb1;have ab3:=hb1.size;clear hsd hWA yI VB hbB hb1 hb2
 rcases hcase with ⟨hc,HE,hz⟩ | ⟨rfl,x,n,hok,hrb⟩
 ·have hc2:(c1 != 0)=true:=by simpa using hc
  have HE:=hid HE;have HC:=hid hc;obtain ⟨WX,Ec⟩:∃ WX,WX=(W1.alloc (.cells #[.int .i64 k1,.int .i64 m1,.int .i64 f1,.int .i64 t1,.slice np1 nn1 nc1,.slice kp1 kn1 kc1] 96)).setCells w.heap.size 0 [.int .i64 0,.int .i64 0,.int .i64 0,.int .i64 0,.slice none 0 0,.slice none 0 0]:=⟨_,rfl⟩
  have hp:=Nu HT2.out (.int .i64 0) (.int .i64 0) (.int .i64 0) (.int .i64 0) (.slice none 0 0) (.slice none 0 0);rw [← Ec] at hp;obtain ⟨p0,p1,p2,p3,p4,p5⟩:=hp;have hgx:=jZ w.heap.size [.int .i64 0,.int .i64 0,.int .i64 0,.int .i64 0,.slice none 0 0,.slice none 0 0] 0 (W1.alloc (.cells #[.int .i64 k1,.int .i64 m1,.int .i64 f1,.int .i64 t1,.slice np1 nn1 nc1,.slice kp1 kn1 kc1] 96));rw [← Ec] at hgx;have G6:=hid hgx;have QO:=hid Ec;clear hc hz Ec hgx
  go_wp2_with (first
   | (refine wpList_store_mid rfl 26 (.tmp 6) (.tmp 24) rfl w.heap.size 0 #[.int .i64 0,.int .i64 0,.int .i64 0,.int .i64 0,.slice none 0 0,.slice none 0 0] rfl rfl HT2.out VA.out (by simp [Value.oneCell']) ?_; show wpList _ _ _ _ _ ((W1.alloc (.cells #[.int .i64 k1,.int .i64 m1,.int .i64 f1,.int .i64 t1,.slice np1 nn1 nc1,.slice kp1 kn1 kc1] 96)).setCells w.heap.size 0 [.int .i64 0,.int .i64 0,.int .i64 0,.int .i64 0,.slice none 0 0,.slice none 0 0]); rw [← QO.out]))
  refine bodyPost_ret (by simp [results,results17,go_sem,p0,p1,p2,p3,p4,p5,Result.andThen]; try rfl) rfl ?_
  refine ⟨?_,.inl ⟨a1,c1,HC.out,HE.out,rfl⟩⟩
  have h8:=Ea.out.trans (Eb.out.mono (by have:=Ea.out.size; omega));exact h8.grown G6.out h8.size (fun j hj=>by have:=Option.some.inj hj; omega)
 ·obtain ⟨y,hv,hl,_,hp⟩:=hrb
  subst hp;have hb2:=Ea.out.trans (Eb.out.mono (by have:=Ea.out.size; omega));have Vy:=hid (Ic y s (by omega) file first hwf (W1.alloc (.cells #[.int .i64 k1,.int .i64 m1,.int .i64 f1,.int .i64 t1,.slice np1 nn1 nc1,.slice kp1 kn1 kc1] 96)) (HKA.out.step (HB1.out.trans (Eb.out.mono HB1.out.size))) (hl.step _ Eb.out) (PI (by omega) hs hok));rw [← hv] at Vy;have HOK:=hid hok;clear hl hok hv
  go_wp2_with fail
  refine Vy.out.mono ?_
  rintro x W3 ⟨nd,oa,m,ts,rfl,q1,q2,q3,q4,q5,q6,q7,hb3,q8,q9⟩;obtain ⟨ndh,ndk⟩:=nd;obtain ⟨xk,xm,xf,xt,xnp,xnn,xnc,xns,xkp,xkn,xkc⟩:=ndh;simp only [Br.h,Hd.val];have hb4:=Eb.out.trans (hb3.mono Eb.out.size);have hb5:Below W3.heap.size W3 (W3.alloc (.cells #[.int .i64 xk,.int .i64 xm,.int .i64 xf,.int .i64 xt,.slice xnp xnn xnc,.slice xkp xkn xkc] 26)):=(Below.refl _ _).alloc (Nat.le_refl _) _;have hs3:=hb3.size;have hsB:=Eb.out.size;have VC:=(hb5.block w.heap.size (by omega)).trans ((hb4.block w.heap.size (by omega)).trans ((HB1.out.block w.heap.size (by omega)).trans DV.out));have HT3:=hid (BO VC rfl);obtain ⟨WX,Ec⟩:∃ WX,WX=(W3.alloc (.cells #[.int .i64 xk,.int .i64 xm,.int .i64 xf,.int .i64 xt,.slice xnp xnn xnc,.slice xkp xkn xkc] 26)).setCells w.heap.size 0 [.int .i64 xk,.int .i64 xm,.int .i64 xf,.int .i64 xt,.slice xnp xnn xnc,.slice xkp xkn xkc]:=⟨_,rfl⟩
  have hp:=Nu HT3.out (.int .i64 xk) (.int .i64 xm) (.int .i64 xf) (.int .i64 xt) (.slice xnp xnn xnc) (.slice xkp xkn xkc);rw [← Ec] at hp;obtain ⟨p0,p1,p2,p3,p4,p5⟩:=hp;have hgx:=jZ w.heap.size [.int .i64 xk,.int .i64 xm,.int .i64 xf,.int .i64 xt,.slice xnp xnn xnc,.slice xkp xkn xkc] 0 (W3.alloc (.cells #[.int .i64 xk,.int .i64 xm,.int .i64 xf,.int .i64 xt,.slice xnp xnn xnc,.slice xkp xkn xkc] 26));rw [← Ec] at hgx;have G6:=hid hgx;have QO:=hid Ec;have HQ:=hid (And.intro q1 (And.intro q2 (And.intro q3 (And.intro q4 (And.intro q5 (And.intro q6 (And.intro q7 (And.intro q8 q9))))))));have HB4:=hid hb4;have mg:=hid hb5;clear q1 q2 q3 q4 q5 q6 q7 q8 q9 Ec hgx VC hb4 hb5 hb3 Vy
  go_wp2_with (first
   | (refine wpList_store_mid rfl 26 (.tmp 6) (.tmp 36) rfl w.heap.size 0 #[.int .i64 xk,.int .i64 xm,.int .i64 xf,.int .i64 xt,.slice xnp xnn xnc,.slice xkp xkn xkc] rfl rfl HT3.out VA.out (by simp [Value.oneCell']) ?_; show wpList _ _ _ _ _ ((W3.alloc (.cells #[.int .i64 xk,.int .i64 xm,.int .i64 xf,.int .i64 xt,.slice xnp xnn xnc,.slice xkp xkn xkc] 26)).setCells w.heap.size 0 [.int .i64 xk,.int .i64 xm,.int .i64 xf,.int .i64 xt,.slice xnp xnn xnc,.slice xkp xkn xkc]); rw [← QO.out]))
  refine bodyPost_ret (by simp [results,results17,go_sem,p0,p1,p2,p3,p4,p5,Result.andThen]; try rfl) rfl ?_
  have h7:=Ea.out.trans (HB4.out.mono (by have:=Ea.out.size; omega));have h8:=h7.trans (mg.out.mono h7.size);obtain ⟨q1,q2,q3,q4,q5,q6,q7,q8,q9⟩:=HQ.out;have hgw:W3.grownBy WX (some w.heap.size):=ae (grown_below mg.out _) G6.out;have ab5:=Ea.out.size;have hs4:=Eb.out.size;have hzz:(W1.alloc (.cells #[.int .i64 k1,.int .i64 m1,.int .i64 f1,.int .i64 t1,.slice np1 nn1 nc1,.slice kp1 kn1 kc1] 96)).heap.size=W1.heap.size+1:=by simp
  have Gm:=Br.Lies.kept (P:=fun q=>W1.heap.size+1≤q) _ hgw.size (fun q hq hlt=>hgw.block q hlt (fun e=>by have:=Option.some.inj e; omega)) (Br.On.mono (fun q hq=>by rw [hzz] at hq; exact hq) _ q8) q1;refine ⟨h8.grown G6.out h8.size (fun j hj=>by have:=Option.some.inj hj; omega),.inr ⟨y,n,_,oa,m,ts,⟨HOK.out,⟨_,rfl,Gm,q2⟩,q3,q4,q5,Nat.lt_of_lt_of_le q6 hgw.size,fun i t hi=>?_⟩,⟨_,rfl,Gm,q2,Br.On.mono (fun q hq=>by rw [hzz] at hq; omega) _ q8⟩,by rw [hzz] at q9; omega,rfl⟩⟩
  ·obtain ⟨z,hz,j,hj,ho⟩:=q7 i t hi
   refine ⟨z,hz,j,hj,ho.ext fun o _=>World.cell?_of_block (a:=⟨oa,_,none⟩) (hgw.block oa q6 (fun e=>by have:=Option.some.inj e; rw [hzz] at q9; omega))⟩
theorem CX (s:ByteArray) (hs:s.size≤300000) (file first:Int) (hwf:(Lit.int .i64 first).wf=true) (w:World) (hk:Kw w) :
  Calls prog 17 #[.string s,.int .i64 file,.int .i64 first] w fun x W'=>Below w.heap.size w W' ∧
   ((∃ a c,c≠0∧yX s a c∧x=.returned (.tuple #[zeroV,.slice none 0 0,.int .i64 a,.int .i64 c])) ∨
    (∃ y0 n v oa m ts,Ef s file first y0 n v oa m ts W'∧x=.returned (.tuple #[v,.slice (some ⟨oa,0,none⟩) m m,.int .i64 0,.int .i64 0]))) :=
 (EK s hs file first hwf w hk).mono fun x W' ⟨hb,h⟩=>⟨hb,h.imp id fun ⟨y0,n,v,oa,m,ts,h1,_,_,h2⟩=>⟨y0,n,v,oa,m,ts,h1,h2⟩⟩
end Go.Proofs.YtmpmfamiegpmgaaGreatDoor
