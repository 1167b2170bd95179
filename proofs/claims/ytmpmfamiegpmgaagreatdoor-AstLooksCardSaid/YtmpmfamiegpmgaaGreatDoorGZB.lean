/-
  Two lists of ints are held against one another (the statements' Ints).; The statements' example of layer 8.; The document's All: a node and all below it, one behind the other.
-/
import Derived.Test.YtmpmfamiegpmgaaGreatDoorGU
import Derived.Test.YtmpmfamiegpmgaaGreatDoorGZ
import Derived.Test.YtmpmfamiegpmgaaGreatDoorGD
namespace Go.Proofs.YtmpmfamiegpmgaaGreatDoor
open Tryz
open Go.Lib (cell_of_heap compact hid)
open Go.RowKit
set_option maxRecDepth 20000
set_option linter.unusedVariables false
set_option linter.unusedSimpArgs false
set_option maxHeartbeats 4000000 in
theorem uy (l1 l2:List Int) (p1 p2:Option Addr) (n1 c1 n2 c2:Nat) (w:World) (h1:InV mkI w p1 n1 c1 l1) (h2:InV mkI w p2 n2 c2 l2) (hs:n1≤100000000) (hs2:n2≤100000000) :
  Calls prog 27 #[.slice p1 n1 c1,.slice p2 n2 c2] w fun e w'=>e=.returned (.bool (l1 == l2))∧Below w.heap.size w w':=by
 have hl1:=h1.1;have hl2:=h2.1;have H1:=hid h1;have H2:=hid h2;have YH:=hid hl1;have HL2:=hid hl2
 by_cases hn:n1=n2
 ·subst hn
  clear h1 h2 hl1 hl2
  go_enter func27,ntmps27
  go_wp2_with fail
  go_loopw [13] (fun iv wr=>∃ i:Nat,i≤n1∧iv=.int .i64 i∧Hid (l1.take i=l2.take i)∧Hid (Below w.heap.size w wr)) (fun iv _=>n1 - (intOf iv).toNat)
  case atStart=>exact ⟨0,by omega,rfl,hid rfl,hid (Below.refl _ _)⟩
  case round =>
   obtain ⟨i,hi,rfl,HT,HB⟩:=hrel
   by_cases hlt:i < n1
   ·obtain ⟨b1,o1,rfl,hc1,hb1,yJ⟩:=H1.out.2.resolve_left (by omega)
    obtain ⟨b2,o2,rfl,hc2,hb2,OM⟩:=H2.out.2.resolve_left (by omega);have hi1:i < l1.length:=by rw [← YH.out]; exact hlt
    have hi2:i < l2.length:=by rw [← HL2.out]; exact hlt
    have q1:wr.cell? ⟨b1,o1+i,none⟩=some (.int .i64 l1[i]):=(yJ.step hb1 HB.out) i hi1;have q2:wr.cell? ⟨b2,o2+i,none⟩=some (.int .i64 l2[i]):=(OM.step hb2 HB.out) i hi2;have r1:(0:Int)≤(i:Int):=by omega
    have r2:(i:Int) < (n1:Int):=by omega
    have iw:Hid (l1[i]=l2[i]→l1.take (i+1)=l2.take (i+1)):=hid fun h=>by rw [List.take_succ_eq_append_getElem hi1,List.take_succ_eq_append_getElem hi2,HT.out,h]
    have KJ:Hid (l1[i]≠l2[i]→(l1 == l2)=false):=hid fun h=>by
     simp only [beq_eq_false_iff_ne,ne_eq];intro e;subst e;exact h rfl
    generalize l1[i]=x at *;generalize l2[i]=y at *;clear yJ OM
    by_cases hxy:x=y
    ·subst hxy
     have HE:=hid (iw.out rfl)
     go_wp2_with fail
     go_quiet (fail)
     go_wp2_with fail
     go_roundw
     case rel=>exact ⟨i+1,by omega,by go_num,HE,hid (by first | exact HB.out.trans (below_drewN (Below.refl _ _) _) | exact HB.out.drew | exact HB.out)⟩
     case measure=>simp [intOf]; omega
    ·have HE:=hid (KJ.out hxy)
     have hb:(x == y)=false:=by simpa using hxy
     have hb2:(x != y)=true:=by simp [hxy]
     go_wp2_with fail
     go_quiet (fail)
     go_wp2_with fail
     go_ret
     exact ⟨by rw [HE.out]; rfl,by first | exact HB.out.trans (below_drewN (Below.refl _ _) _) | exact HB.out.drew | exact HB.out⟩
   ·have hin:i=n1:=by omega
    subst hin;have HE:Hid ((l1 == l2)=true):=hid (by have:=HT.out; rw [YH.out,List.take_length,← YH.out,HL2.out,List.take_length] at this; simp [this])
    go_wp2_with fail
    go_ret
    exact ⟨by rw [HE.out]; rfl,HB.out⟩
 ·have HE:Hid ((l1 == l2)=false):=hid (by
   simp only [beq_eq_false_iff_ne,ne_eq];intro e;subst e;exact hn (hl1.trans hl2.symm))
  rw [HE.out];clear h1 h2 hl1 hl2;have hb:((n1:Int) != (n2:Int))=true:=by simp; omega
  have hb2:((n1:Int) == (n2:Int))=false:=by simp; omega
  go_enter func27,ntmps27
  go_wp2_with fail
  go_ret
  exact ⟨rfl,Below.refl _ _⟩
theorem O1 (w:World) (hk:Kw w):Calls prog 17 #[.string s8,.int .i64 0,.int .i64 0] w fun x W=>Below w.heap.size w W∧∃ (nd:Br) (oa:Nat),x=.returned (.tuple #[nd.h.val,.slice (some ⟨oa,0,none⟩) 4 4,.int .i64 0,.int .i64 0]) ∧
  nd.Lies W∧nd.flatB.length=6∧aS nd.flatB=[0,3,1,2]∧nd.h.k=1∧oa < W.heap.size ∧
   gq W oa 0 ⟨0,4,5,1,true⟩∧gq W oa 5 ⟨0,8,9,4,false⟩∧gq W oa 10 ⟨0,10,11,1,false⟩∧gq W oa 15 ⟨0,12,13,1,false⟩:=by
 refine (CX s8 (by decide) 0 0 (by decide) w hk).mono ?_
 rintro x W ⟨hb,⟨a,c,hc,he,rfl⟩ | ⟨y0,n,v,oa,m,ts,h,rfl⟩⟩
 ·exfalso
  rcases he with ⟨h1,_⟩ | ⟨_,S,h1,h2,_,⟨n,h3,_⟩ | ⟨n,h3,_⟩⟩
  ·exact h1 Nr
  ·rw [Ew S h1 h2] at h3; cases h3
  ·rw [Ew S h1 h2] at h3; cases h3
 ·obtain ⟨nd,rfl,h2,h3,h4,h5,rfl,h7⟩:=WN h
  exact ⟨hb,nd,oa,rfl,h2,h3,h4,h5,h7⟩
set_option maxHeartbeats 4000000 in
theorem EM (w:World) (hk:Kw w):Calls prog 16 #[] w fun e w'=>e=.returned (.bool true)∧Below w.heap.size w w':=by
 have H1:=hid (O1 w hk)
 go_enter func16,ntmps16
 go_wp2_with fail
 refine H1.out.mono ?_
 rintro x w1 ⟨hb,nd,oa,rfl,h2,h3,h4,h5,h6,h7,h8,h9,h10⟩;have HB:=hid hb;have HL:=hid h2;have H3:=hid h3;have H4:=hid h4;obtain ⟨nh,nk⟩:=nd;obtain ⟨k,m,f,t,np,nn,nc,ns,kp,kn,kc⟩:=nh;obtain rfl:k=1:=h5;have hbx:=kF _ w1 h2 26;simp only [Hd.val,Br.h] at hbx ⊢;obtain ⟨W2,hW2⟩:∃ W2,W2=w1.alloc (.cells #[.int .i64 1,.int .i64 m,.int .i64 f,.int .i64 t,.slice np nn nc,.slice kp kn kc] 26):=⟨_,rfl⟩
 rw [← hW2] at hbx;have hb2:Below w1.heap.size w1 W2:=by rw [hW2]; exact (Below.refl _ _).alloc (Nat.le_refl _) _
 have oc:∀ {o:Nat} {v:oZ},gq w1 oa o v→gq W2 oa o v:=fun h=>h.ext fun j _=>hb2.cell (p:=⟨oa,_,none⟩) h6
 obtain ⟨u00,u01,u02,u03,u04⟩:=oc h7;obtain ⟨u10,u11,u12,u13,u14⟩:=oc h8;obtain ⟨u20,u21,u22,u23,u24⟩:=oc h9;obtain ⟨u30,u31,u32,u33,u34⟩:=oc h10;have hl2:Br.Lies W2 (Br.mk ⟨1,m,f,t,np,nn,nc,ns,kp,kn,kc⟩ nk):=hbx.lies;have SA:(aS (Br.mk ⟨1,m,f,t,np,nn,nc,ns,kp,kn,kc⟩ nk).flatB).filter (aX 4 fun i=>i == 0)=[0]:=by rw [h4]; decide
 have HD:=zG _ oa 4 4 (fun i=>i == 0) W2 hl2 (by rw [h3]; omega) (Nat.lt_of_lt_of_le h6 hb2.size) (Nat.le_refl _) (fun i hi=>by
  match i,hi with
  | 0,_=>exact u04
  | 1,_=>exact u14
  | 2,_=>exact u24
  | 3,_=>exact u34) (by omega) (by rw [h4]; decide) (by rw [h4]; decide) (by rw [SA]; decide)
 rw [SA,show (compact (([0]:List Int).mergeSort fun x y=>decide (x≤y)))=[0] by rw [List.mergeSort_singleton]; rfl] at HD;have Gg:=hid HD;have tX:Hid (∀ W,Below W2.heap.size W2 W→Calls prog 25 #[.agg #[.int .i64 1,.int .i64 m,.int .i64 f,.int .i64 t,.slice np nn nc,.slice kp kn kc]] W fun x w'=>x=.returned (.int .i64 6)∧Below W.heap.size W w'):=hid fun W hW=>by
  have:=size_any _ W (hl2.step _ hW) (by rw [h3]; omega)
  rw [h3] at this;exact this
 have kN:Hid (∀ W,Below W2.heap.size W2 W→bP W w1.heap.size 0 ⟨1,m,f,t,np,nn,nc,ns,kp,kn,kc⟩):=hid fun W hW=>hbx.at_.step hbx.lt hW
 obtain ⟨c0,c1,c2,c3,c4,c5⟩:=kN.out W2 (Below.refl _ _);dsimp only at c0 c1 c2 c3 c4 c5
 have HB2:=hid hb2;clear h2 h3 h4 hb H1 oc h7 h8 h9 h10 hl2 SA hb2 hbx HD HL H3 H4
 go_wp2_with fail
 rw [← hW2];clear hW2;refine (TB 0 _).mono ?_
 rintro x w2 ⟨rfl,rfl⟩
 go_wp2_with fail
 refine Gg.out.mono ?_
 rintro x w3 ⟨g,cap,rfl,hrow,hb3⟩;have hc0:=fQ hrow 0 (.int .i64 0) rfl;obtain ⟨_,hgl,hcap,_⟩:=uk hrow;have hb4:Below w3.heap.size w3 (w3.alloc (.cells #[.int .i64 0] 3)):=(Below.refl _ _).alloc (Nat.le_refl _) _;have HI:=hid (uy [0] [0] (some ⟨g,0,none⟩) (some ⟨w3.heap.size,0,none⟩) 1 cap 1 1 (w3.alloc (.cells #[.int .i64 0] 3))
  ⟨rfl,.inr ⟨g,0,rfl,hcap,Nat.lt_of_lt_of_le hgl hb4.size,fun i hi=>by
   have:i=0:=by simpa using hi
   subst this;exact (hb4.cell (p:=⟨g,0,none⟩) hgl).trans hc0⟩⟩
  ⟨rfl,.inr ⟨w3.heap.size,0,rfl,Nat.le_refl _,by simp,fun i hi=>by
   have:i=0:=by simpa using hi
   subst this;rw [cell_of_heap (heap_alloc_new w3 _)]; rfl⟩⟩ (by omega) (by omega))
 have HB4:Hid (Below W2.heap.size W2 (w3.alloc (.cells #[.int .i64 0] 3))):=hid (hb3.trans (hb4.mono hb3.size));clear hrow hc0 hgl hcap hb3 hb4 Gg c0 c1 c2 c3 c4 c5 u00 u01 u02 u03 u04 u10 u11 u12 u13 u14 u20 u21 u22 u23 u24 u30 u31 u32 u33 u34
 go_wp2_with fail
 refine HI.out.mono ?_
 rintro x w5 ⟨rfl,hb5⟩;have hb6:=HB4.out.trans (hb5.mono HB4.out.size);obtain ⟨c0,c1,c2,c3,c4,c5⟩:=kN.out w5 hb6;dsimp only at c0 c1 c2 c3 c4 c5
 have HS:=hid (tX.out w5 hb6);have UT:Hid (Below w.heap.size w w5):=hid (HB.out.trans ((HB2.out.trans (hb6.mono HB2.out.size)).mono HB.out.size));clear hb5 hb6 HI HB4 tX kN
 go_wp2_with fail
 refine HS.out.mono ?_
 rintro x w8 ⟨rfl,hb8⟩;have UU:Hid (Below w.heap.size w w8):=hid (UT.out.trans (hb8.mono UT.out.size));clear hb8 HS c0 c1 c2 c3 c4 c5
 go_wp2_with fail
 go_ret
 exact ⟨rfl,UU.out⟩
theorem LK:(prog.info? 26).map (fun i=>(i.zero,i.size,i.bytes))=some (some (.agg #[.int .i64 0,.int .i64 0,.int .i64 0,.int .i64 0,.slice none 0 0,.slice none 0 0]),6,80):=by kernel_rfl
set_option maxHeartbeats 4000000 in
theorem ww (b:Br):∀ (w:World),b.Lies w→b.flatB.length≤10000000 →
  Calls prog 23 #[b.h.val] w fun e w'=>∃ v,e=.returned v∧w'.ownsRow w.heap.size 26 6 v b.flatB.length (bg b.flatB)∧Below w.heap.size w w':=by
 obtain ⟨i0,hi0,hy0,hy1,hy2⟩:=info_parts LK
 induction b using Br.ind with
 | hP h ks ih =>
  intro w hl hsz;have hbx:=kF _ w hl 26;rw [cZ,show (Br.mk h ks).ks=ks from rfl] at hsz ⊢;simp only [List.length_cons] at hsz ⊢;obtain ⟨_,hkids,hall⟩:=(aO _ _).1 hl;simp only [Br.h,Br.ks] at hkids hall hbx ⊢;obtain ⟨hk,hm,hf,ht,np,nn,nc,ns,kp,kn,kc⟩:=h;have hkn:kn=ks.length:=hkids.1;subst hkn
  simp only at hbx
  have HK:=hid hkids;have HL:=hid hall;have HI:=hid ih;have b0:Below w.heap.size w (w.alloc (.cells #[.int .i64 hk,.int .i64 hm,.int .i64 hf,.int .i64 ht,.slice np nn nc,.slice kp ks.length kc] 26)):=(Below.refl _ _).alloc (Nat.le_refl _) _;have hw0:(w.alloc (.cells #[.int .i64 hk,.int .i64 hm,.int .i64 hf,.int .i64 ht,.slice np nn nc,.slice kp ks.length kc] 26)).heap.size=w.heap.size+1:=by simp
  have HAT:=hid (fun W (hW:Below (w.alloc (.cells #[.int .i64 hk,.int .i64 hm,.int .i64 hf,.int .i64 ht,.slice np nn nc,.slice kp ks.length kc] 26)).heap.size (w.alloc (.cells #[.int .i64 hk,.int .i64 hm,.int .i64 hf,.int .i64 ht,.slice np nn nc,.slice kp ks.length kc] 26)) W)=>(show bP W w.heap.size 0 ⟨hk,hm,hf,ht,np,nn,nc,ns,kp,ks.length,kc⟩ from hbx.at_.step hbx.lt hW));obtain ⟨c0,c1,c2,c3,c4,c5⟩:=HAT.out _ (Below.refl _ _);dsimp only at c0 c1 c2 c3 c4 c5
  have B0:=hid b0;have HW0:=hid hw0;clear hkids hall ih hl b0 hw0 hbx
  go_enter func23,ntmps23
  simp only [Hd.val]
  go_wp2_with fail
  obtain ⟨w1,hw1⟩:∃ w1,w1=(w.alloc (.cells #[.int .i64 hk,.int .i64 hm,.int .i64 hf,.int .i64 ht,.slice np nn nc,.slice kp ks.length kc] 26)).alloc (.cells #[.int .i64 hk,.int .i64 hm,.int .i64 hf,.int .i64 ht,.slice np nn nc,.slice kp ks.length kc] 26):=⟨_,rfl⟩
  have hown1:w1.ownsRow (w.heap.size+1) 26 6 (.slice (some ⟨w.heap.size+1,0,none⟩) 1 1) 1 [.int .i64 hk,.int .i64 hm,.int .i64 hf,.int .i64 ht,.slice np nn nc,.slice kp ks.length kc]:=by
   rw [hw1];have h1:=heap_alloc_new (w.alloc (.cells #[.int .i64 hk,.int .i64 hm,.int .i64 hf,.int .i64 ht,.slice np nn nc,.slice kp ks.length kc] 26)) (.cells #[.int .i64 hk,.int .i64 hm,.int .i64 hf,.int .i64 ht,.slice np nn nc,.slice kp ks.length kc] 26);rw [HW0.out] at h1;exact dB h1 (Nat.le_refl _) rfl (by unfold maxLen; omega)
  have hb1:Below (w.alloc (.cells #[.int .i64 hk,.int .i64 hm,.int .i64 hf,.int .i64 ht,.slice np nn nc,.slice kp ks.length kc] 26)).heap.size (w.alloc (.cells #[.int .i64 hk,.int .i64 hm,.int .i64 hf,.int .i64 ht,.slice np nn nc,.slice kp ks.length kc] 26)) w1:=by rw [hw1]; exact (Below.refl _ _).alloc (Nat.le_refl _) _
  rw [← hw1];obtain ⟨w0,hw0⟩:∃ w0,w0=w.alloc (.cells #[.int .i64 hk,.int .i64 hm,.int .i64 hf,.int .i64 ht,.slice np nn nc,.slice kp ks.length kc] 26):=⟨_,rfl⟩
  rw [← hw0] at HAT B0 HW0 hb1;have SB:Hid (∀ W,Below w0.heap.size w0 W→Below w.heap.size w W):=hid fun W hW=>B0.out.trans (hW.mono B0.out.size)
  clear c0 c1 c2 c3 c4 c5 hw1 hw0;have Oc:=hid hown1;have HB1:=hid hb1;clear hown1 hb1;have hz0:=HW0.out;obtain ⟨hd,hhd⟩:∃ hd:Hd,hd=⟨hk,hm,hf,ht,np,nn,nc,ns,kp,ks.length,kc⟩:=⟨_,rfl⟩
  have Yz:=hid hhd;have YI:Hid (∀ (v:Value) (W:World),W.ownsRow (w.heap.size+1) 26 6 v (1+(aB ks).length) (hcells hd++bg (aB ks))→W.ownsRow w.heap.size 26 6 v ((aB ks).length+1) (bg (.mk hd ks :: aB ks))):=hid fun v W h=>by
   rw [show (aB ks).length+1=1+(aB ks).length by omega];exact own_base h (by omega)
  clear hhd;have ab6:=pM ks
  go_loopw [3,4] (fun v i wr=>∃ k:Nat,k≤ks.length∧i=.int .i64 k∧Hid (wr.ownsRow (w.heap.size+1) 26 6 v (1+(aB (ks.take k)).length) (hcells hd++bg (aB (ks.take k))))∧Below w0.heap.size w0 wr) (fun _ i _=>ks.length - (intOf i).toNat)
  case atStart=>exact ⟨0,by omega,rfl,hid (by rw [Yz.out]; exact Oc.out),HB1.out⟩
  case round =>
   obtain ⟨k,hk0,rfl,HO,hbe⟩:=hrel;obtain ⟨a0,a1,a2,a3,a4,a5⟩:=HAT.out _ hbe;dsimp only at a0 a1 a2 a3 a4 a5
   have hz:=hbe.size;have hml:=rO ks k;obtain ⟨m,hme⟩:∃ m,m=1+(aB (ks.take k)).length:=⟨_,rfl⟩
   rw [← hme] at HO;have KO:=hid hme
   by_cases hlt:k < ks.length
   ·obtain ⟨b1,off,rfl,hcap,hb1,KR⟩:=((HK.out.step (SB.out _ hbe))).2.resolve_left (by omega)
    obtain ⟨c0,c1,c2,c3,c4,c5⟩:=KR k hlt;have hxl:=(HL.out ks[k] (List.getElem_mem hlt)).step _ (SB.out _ hbe);have hts:=su hlt;have htl:=rO ks (k+1);rw [hts,List.length_append] at htl;have hp:=ig ks[k];have HX:=hid (HI.out ks[k] (List.getElem_mem hlt) wr hxl (by omega));have KH:=hid hts;have hmm:m+ks[k].flatB.length≤20000000:=by omega
    have hm1:1≤m:=by omega
    obtain ⟨g,c,rfl,_,hg,hgc,hgm⟩:=iJ HO.out (by omega);have mi:=hid hbe;have hr1:(0:Int)≤(k:Int):=by omega
    have hr2:(k:Int) < (ks.length:Int):=by omega
    clear hme KR hxl hts htl hbe hml;generalize ks[k]=x at *
    go_wp2_with fail
    refine HX.out.mono ?_
    rintro e w2 ⟨v2,rfl,hown2,hb2⟩;obtain ⟨xs,hxs⟩:∃ xs,xs=x.flatB.length:=⟨_,rfl⟩
    rw [← hxs] at hown2 hp hmm;have HXS:=hid hxs;obtain ⟨g2,c2',rfl,hg2,hg2',_,_⟩:=iJ hown2 (by omega);have hz2:=hb2.size;have mr:=hid hown2;have HB2:=hid hb2;clear hown2 hb2 hxs
    go_wp2_with (at_builtin; refine wpList_append_own _ rfl _ _ 24 rfl (w.heap.size+1) 26 i0 _ 6 80 underlying24 hi0 hy0 hy1 hy2 rfl (by omega) _ m _ rfl (ownsRow_below HO.out HB2.out) ⟨g2,0,none⟩ xs c2' (bg x.flatB) rfl (by rw [lG,HXS.out]) (vK mr.out) (uZ x.flatB) (by unfold maxLen; omega) (by omega) (by omega) ?_)
    intro v3 w3 hown3 hgrow _;have HB3:=hid ((mi.out.trans (HB2.out.mono hz)).grown hgrow (by omega) (fun q hq=>(by rw [HW0.out]; exact (HO.out.lt q hq).1)));have wF:Hid (w3.ownsRow (w.heap.size+1) 26 6 v3 (1+(aB (ks.take (k+1))).length) (hcells hd++bg (aB (ks.take (k+1))))):=hid (by
     rw [KH.out,List.length_append,ji,← List.append_assoc,← HXS.out,show 1+((aB (ks.take k)).length+xs)=m+xs by rw [KO.out]; omega]; exact hown3)
    clear hown3 hgrow
    go_wp2_with fail
    go_roundw
    case rel=>exact ⟨k+1,by omega,by go_num,wF,HB3.out⟩
    case measure=>simp [intOf]; omega
   ·have KI:=hid (List.take_of_length_le (l:=ks) (i:=k) (by omega))
    have HB:=hid hbe;have hO:=HO.out;rw [KO.out,KI.out] at hO;have HF:=hid (YI.out _ wr hO);clear hO;clear hbe hml hme
    go_wp2_with fail
    go_ret
    exact ⟨_,rfl,by rw [← Yz.out]; exact HF.out,SB.out _ HB.out⟩
end Go.Proofs.YtmpmfamiegpmgaaGreatDoor
