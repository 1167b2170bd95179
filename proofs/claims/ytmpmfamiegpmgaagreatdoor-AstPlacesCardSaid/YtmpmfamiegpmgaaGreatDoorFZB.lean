/-
  Two lists of ints are held against one another (the statements' Ints).; The statements' example of layer 8.; The document's All: a node and all below it, one behind the other.
-/
import Derived.Test.YtmpmfamiegpmgaaGreatDoorFU
import Derived.Test.YtmpmfamiegpmgaaGreatDoorFZ
import Derived.Test.YtmpmfamiegpmgaaGreatDoorFD
namespace Go.Proofs.YtmpmfamiegpmgaaGreatDoor
open Tryz
open Go.Lib (cell_of_heap compact hid)
open Go.RowKit
set_option maxRecDepth 20000
set_option linter.unusedVariables false
set_option linter.unusedSimpArgs false
set_option maxHeartbeats 4000000 in
theorem E8 (l1 l2:List Int) (p1 p2:Option Addr) (n1 c1 n2 c2:Nat) (w:World) (h1:InV mkI w p1 n1 c1 l1) (h2:InV mkI w p2 n2 c2 l2) (hs:n1≤100000000) (hs2:n2≤100000000) :
  Calls prog 27 #[.slice p1 n1 c1,.slice p2 n2 c2] w fun e w'=>e=.returned (.bool (l1 == l2))∧Below w.heap.size w w':=by
 have hl1:=h1.1
 have hl2:=h2.1
 have H1:=hid h1
 have H2:=hid h2
 have Uo:=hid hl1
 have HL2:=hid hl2
 by_cases hn:n1=n2
 ·subst hn
  clear h1 h2 hl1 hl2
  go_enter func27,ntmps27
  go_wp2_with fail
  go_loopw [13] (fun iv wr=>∃ i:Nat,i≤n1∧iv=.int .i64 i∧Hid (l1.take i=l2.take i)∧Hid (Below w.heap.size w wr)) (fun iv _=>n1 - (intOf iv).toNat)
  case atStart=>exact ⟨0,by omega,rfl,hid rfl,hid (Below.refl _ _)⟩
  case round =>
   obtain ⟨i,hi,rfl,HT,HB⟩:=hrel
   by_cases hlt:i < n1
   ·obtain ⟨b1,o1,rfl,hc1,hb1,VQ⟩:=H1.out.2.resolve_left (by omega)
    obtain ⟨b2,o2,rfl,hc2,hb2,VR⟩:=H2.out.2.resolve_left (by omega)
    have hi1:i < l1.length:=by rw [← Uo.out]; exact hlt
    have hi2:i < l2.length:=by rw [← HL2.out]; exact hlt
    have q1:wr.cell? ⟨b1,o1+i,none⟩=some (.int .i64 l1[i]):=(VQ.step hb1 HB.out) i hi1
    have q2:wr.cell? ⟨b2,o2+i,none⟩=some (.int .i64 l2[i]):=(VR.step hb2 HB.out) i hi2
    have r1:(0:Int)≤(i:Int):=by omega
    have r2:(i:Int) < (n1:Int):=by omega
    have jd:Hid (l1[i]=l2[i]→l1.take (i+1)=l2.take (i+1)):=hid fun h=>by rw [List.take_succ_eq_append_getElem hi1,List.take_succ_eq_append_getElem hi2,HT.out,h]
    have Yz:Hid (l1[i]≠l2[i]→(l1 == l2)=false):=hid fun h=>by
     simp only [beq_eq_false_iff_ne,ne_eq]
     intro e
     subst e
     exact h rfl
    generalize l1[i]=x at *
    generalize l2[i]=y at *
    clear VQ VR
    by_cases hxy:x=y
    ·subst hxy
     have HE:=hid (jd.out rfl)
     go_wp2_with fail
     go_quiet (fail)
     go_wp2_with fail
     go_roundw
     case rel=>exact ⟨i+1,by omega,by go_num,HE,hid (by first | exact HB.out.trans (below_drewN (Below.refl _ _) _) | exact HB.out.drew | exact HB.out)⟩
     case measure=>simp [intOf]; omega
    ·have HE:=hid (Yz.out hxy)
     have hb:(x == y)=false:=by simpa using hxy
     have hb2:(x != y)=true:=by simp [hxy]
     go_wp2_with fail
     go_quiet (fail)
     go_wp2_with fail
     go_ret
     exact ⟨by rw [HE.out]; rfl,by first | exact HB.out.trans (below_drewN (Below.refl _ _) _) | exact HB.out.drew | exact HB.out⟩
   ·have hin:i=n1:=by omega
    subst hin
    have HE:Hid ((l1 == l2)=true):=hid (by have:=HT.out; rw [Uo.out,List.take_length,← Uo.out,HL2.out,List.take_length] at this; simp [this])
    go_wp2_with fail
    go_ret
    exact ⟨by rw [HE.out]; rfl,HB.out⟩
 ·have HE:Hid ((l1 == l2)=false):=hid (by
   simp only [beq_eq_false_iff_ne,ne_eq]
   intro e
   subst e
   exact hn (hl1.trans hl2.symm))
  rw [HE.out]
  clear h1 h2 hl1 hl2
  have hb:((n1:Int) != (n2:Int))=true:=by simp; omega
  have hb2:((n1:Int) == (n2:Int))=false:=by simp; omega
  go_enter func27,ntmps27
  go_wp2_with fail
  go_ret
  exact ⟨rfl,Below.refl _ _⟩
theorem O8 (w:World) (hk:Kw w):Calls prog 17 #[.string s8,.int .i64 0,.int .i64 0] w fun x W=>Below w.heap.size w W∧∃ (nd:Br) (oa:Nat),x=.returned (.tuple #[nd.h.val,.slice (some ⟨oa,0,none⟩) 4 4,.int .i64 0,.int .i64 0]) ∧
  nd.Lies W∧nd.flatB.length=6∧cO nd.flatB=[0,3,1,2]∧nd.h.k=1∧oa < W.heap.size ∧
   gz W oa 0 ⟨0,4,5,1,true⟩∧gz W oa 5 ⟨0,8,9,4,false⟩∧gz W oa 10 ⟨0,10,11,1,false⟩∧gz W oa 15 ⟨0,12,13,1,false⟩:=by
 refine (Di s8 (by decide) 0 0 (by decide) w hk).mono ?_
 rintro x W ⟨hb,⟨a,c,hc,he,rfl⟩ | ⟨y0,n,v,oa,m,ts,h,rfl⟩⟩
 ·exfalso
  rcases he with ⟨h1,_⟩ | ⟨_,S,h1,h2,_,⟨n,h3,_⟩ | ⟨n,h3,_⟩⟩
  ·exact h1 LK
  ·rw [FH S h1 h2] at h3; cases h3
  ·rw [FH S h1 h2] at h3; cases h3
 ·obtain ⟨nd,rfl,h2,h3,h4,h5,rfl,h7⟩:=We h
  exact ⟨hb,nd,oa,rfl,h2,h3,h4,h5,h7⟩
set_option maxHeartbeats 4000000 in
theorem Gf (w:World) (hk:Kw w):Calls prog 16 #[] w fun e w'=>e=.returned (.bool true)∧Below w.heap.size w w':=by
 have H1:=hid (O8 w hk)
 go_enter func16,ntmps16
 go_wp2_with fail
 refine H1.out.mono ?_
 rintro x w1 ⟨hb,nd,oa,rfl,h2,h3,h4,h5,h6,h7,h8,h9,h10⟩
 have HB:=hid hb
 have HL:=hid h2
 have H3:=hid h3
 have H4:=hid h4
 obtain ⟨nh,nk⟩:=nd
 obtain ⟨k,m,f,t,np,nn,nc,ns,kp,kn,kc⟩:=nh
 obtain rfl:k=1:=h5
 have hbx:=wM _ w1 h2 26
 simp only [Hd.val,Br.h] at hbx ⊢
 obtain ⟨W2,hW2⟩:∃ W2,W2=w1.alloc (.cells #[.int .i64 1,.int .i64 m,.int .i64 f,.int .i64 t,.slice np nn nc,.slice kp kn kc] 26):=⟨_,rfl⟩
 rw [← hW2] at hbx
 have hb2:Below w1.heap.size w1 W2:=by rw [hW2]; exact (Below.refl _ _).alloc (Nat.le_refl _) _
 have oc:∀ {o:Nat} {v:jr},gz w1 oa o v→gz W2 oa o v:=fun h=>h.ext fun j _=>hb2.cell (p:=⟨oa,_,none⟩) h6
 obtain ⟨u00,u01,u02,u03,u04⟩:=oc h7
 obtain ⟨u10,u11,u12,u13,u14⟩:=oc h8
 obtain ⟨u20,u21,u22,u23,u24⟩:=oc h9
 obtain ⟨u30,u31,u32,u33,u34⟩:=oc h10
 have hl2:Br.Lies W2 (Br.mk ⟨1,m,f,t,np,nn,nc,ns,kp,kn,kc⟩ nk):=hbx.lies
 have SY:(cO (Br.mk ⟨1,m,f,t,np,nn,nc,ns,kp,kn,kc⟩ nk).flatB).filter (gI 4 fun i=>i == 0)=[0]:=by rw [h4]; decide
 have HD:=Am _ oa 4 4 (fun i=>i == 0) W2 hl2 (by rw [h3]; omega) (Nat.lt_of_lt_of_le h6 hb2.size) (Nat.le_refl _) (fun i hi=>by
  match i,hi with
  | 0,_=>exact u04
  | 1,_=>exact u14
  | 2,_=>exact u24
  | 3,_=>exact u34) (by omega) (by rw [h4]; decide) (by rw [h4]; decide) (by rw [SY]; decide)
 rw [SY,show (compact (([0]:List Int).mergeSort fun x y=>decide (x≤y)))=[0] by rw [List.mergeSort_singleton]; rfl] at HD
 have Ky:=hid HD
 have Ez:Hid (∀ W,Below W2.heap.size W2 W→Calls prog 25 #[.agg #[.int .i64 1,.int .i64 m,.int .i64 f,.int .i64 t,.slice np nn nc,.slice kp kn kc]] W fun x w'=>x=.returned (.int .i64 6)∧Below W.heap.size W w'):=hid fun W hW=>by
  have:=size_any _ W (hl2.step _ hW) (by rw [h3]; omega)
  rw [h3] at this
  exact this
 have uZ:Hid (∀ W,Below W2.heap.size W2 W→iK W w1.heap.size 0 ⟨1,m,f,t,np,nn,nc,ns,kp,kn,kc⟩):=hid fun W hW=>hbx.at_.step hbx.lt hW
 obtain ⟨c0,c1,c2,c3,c4,c5⟩:=uZ.out W2 (Below.refl _ _)
 dsimp only at c0 c1 c2 c3 c4 c5
 have HB2:=hid hb2
 clear h2 h3 h4 hb H1 oc h7 h8 h9 h10 hl2 SY hb2 hbx HD HL H3 H4
 go_wp2_with fail
 rw [← hW2]
 clear hW2
 refine (FN 0 _).mono ?_
 rintro x w2 ⟨rfl,rfl⟩
 go_wp2_with fail
 refine Ky.out.mono ?_
 rintro x w3 ⟨g,cap,rfl,hrow,hb3⟩
 have hc0:=iW hrow 0 (.int .i64 0) rfl
 obtain ⟨_,hgl,hcap,_⟩:=zO hrow
 have hb4:Below w3.heap.size w3 (w3.alloc (.cells #[.int .i64 0] 3)):=(Below.refl _ _).alloc (Nat.le_refl _) _
 have HI:=hid (E8 [0] [0] (some ⟨g,0,none⟩) (some ⟨w3.heap.size,0,none⟩) 1 cap 1 1 (w3.alloc (.cells #[.int .i64 0] 3))
  ⟨rfl,.inr ⟨g,0,rfl,hcap,Nat.lt_of_lt_of_le hgl hb4.size,fun i hi=>by
   have:i=0:=by simpa using hi
   subst this
   exact (hb4.cell (p:=⟨g,0,none⟩) hgl).trans hc0⟩⟩
  ⟨rfl,.inr ⟨w3.heap.size,0,rfl,Nat.le_refl _,by simp,fun i hi=>by
   have:i=0:=by simpa using hi
   subst this
   rw [cell_of_heap (heap_alloc_new w3 _)]; rfl⟩⟩ (by omega) (by omega))
 have HB4:Hid (Below W2.heap.size W2 (w3.alloc (.cells #[.int .i64 0] 3))):=hid (hb3.trans (hb4.mono hb3.size))
 clear hrow hc0 hgl hcap hb3 hb4 Ky c0 c1 c2 c3 c4 c5 u00 u01 u02 u03 u04 u10 u11 u12 u13 u14 u20 u21 u22 u23 u24 u30 u31 u32 u33 u34
 go_wp2_with fail
 refine HI.out.mono ?_
 rintro x w5 ⟨rfl,hb5⟩
 have hb6:=HB4.out.trans (hb5.mono HB4.out.size)
 obtain ⟨c0,c1,c2,c3,c4,c5⟩:=uZ.out w5 hb6
 dsimp only at c0 c1 c2 c3 c4 c5
 have HS:=hid (Ez.out w5 hb6)
 have OD:Hid (Below w.heap.size w w5):=hid (HB.out.trans ((HB2.out.trans (hb6.mono HB2.out.size)).mono HB.out.size))
 clear hb5 hb6 HI HB4 Ez uZ
 go_wp2_with fail
 refine HS.out.mono ?_
 rintro x w8 ⟨rfl,hb8⟩
 have Sm:Hid (Below w.heap.size w w8):=hid (OD.out.trans (hb8.mono OD.out.size))
 clear hb8 HS c0 c1 c2 c3 c4 c5
 go_wp2_with fail
 go_ret
 exact ⟨rfl,Sm.out⟩
end Go.Proofs.YtmpmfamiegpmgaaGreatDoor
