/-
  Two lists of ints are held against one another (the statements' Ints).; The statements' example of layer 8.; The document's All: a node and all below it, one behind the other.
-/
import Derived.Test.YtmpmfamiegpmgaaGreatDoorFU
import Derived.Test.YtmpmfamiegpmgaaGreatDoorFZ
import Derived.Test.YtmpmfamiegpmgaaGreatDoorFD
namespace Go.Proofs.YtmpmfamiegpmgaaGreatDoor
open Go.RowKit
set_option maxRecDepth 20000
set_option linter.unusedVariables false
set_option linter.unusedSimpArgs false

set_option maxHeartbeats 4000000 in
theorem ints27_any (l1 l2:List Int) (p1 p2:Option Addr) (n1 c1 n2 c2:Nat) (w:World) (h1:InV mkI w p1 n1 c1 l1) (h2:InV mkI w p2 n2 c2 l2) (hs:n1≤100000000) (hs2:n2≤100000000) :
  Calls Tryz.prog 27 #[.slice p1 n1 c1,.slice p2 n2 c2] w fun e w'=>e=.returned (.bool (l1 == l2))∧Below w.heap.size w w':=by
 have hl1:=h1.1
 have hl2:=h2.1
 have H1:=Lib.hid h1
 have H2:=Lib.hid h2
 have HL1:=Lib.hid hl1
 have HL2:=Lib.hid hl2
 by_cases hn:n1=n2
 ·subst hn
  clear h1 h2 hl1 hl2
  go_enter Tryz.func27,Tryz.ntmps27
  go_wp2_with fail
  go_loopw [13] (fun iv wr=>∃ i:Nat,i≤n1∧iv=.int .i64 i∧Hid (l1.take i=l2.take i)∧Hid (Below w.heap.size w wr)) (fun iv _=>n1 - (intOf iv).toNat)
  case atStart=>exact ⟨0,by omega,rfl,Lib.hid rfl,Lib.hid (Below.refl _ _)⟩
  case round =>
   obtain ⟨i,hi,rfl,HT,HB⟩:=hrel
   by_cases hlt:i < n1
   ·obtain ⟨b1,o1,rfl,hc1,hb1,hat1⟩:=H1.out.2.resolve_left (by omega)
    obtain ⟨b2,o2,rfl,hc2,hb2,hat2⟩:=H2.out.2.resolve_left (by omega)
    have hi1:i < l1.length:=by rw [← HL1.out]; exact hlt
    have hi2:i < l2.length:=by rw [← HL2.out]; exact hlt
    have q1:wr.cell? ⟨b1,o1+i,none⟩=some (.int .i64 l1[i]):=(hat1.step hb1 HB.out) i hi1
    have q2:wr.cell? ⟨b2,o2+i,none⟩=some (.int .i64 l2[i]):=(hat2.step hb2 HB.out) i hi2
    have r1:(0:Int)≤(i:Int):=by omega
    have r2:(i:Int) < (n1:Int):=by omega
    have HEQ:Hid (l1[i]=l2[i]→l1.take (i+1)=l2.take (i+1)):=Lib.hid fun h=>by rw [List.take_succ_eq_append_getElem hi1,List.take_succ_eq_append_getElem hi2,HT.out,h]
    have HNE:Hid (l1[i]≠l2[i]→(l1 == l2)=false):=Lib.hid fun h=>by
     simp only [beq_eq_false_iff_ne,ne_eq]
     intro e
     subst e
     exact h rfl
    generalize l1[i]=x at *
    generalize l2[i]=y at *
    clear hat1 hat2
    by_cases hxy:x=y
    ·subst hxy
     have HE:=Lib.hid (HEQ.out rfl)
     go_wp2_with fail
     go_quiet (fail)
     go_wp2_with fail
     go_roundw
     case rel=>exact ⟨i+1,by omega,by go_num,HE,Lib.hid (by first | exact HB.out.trans (below_drewN (Below.refl _ _) _) | exact HB.out.drew | exact HB.out)⟩
     case measure=>simp [intOf]; omega
    ·have HE:=Lib.hid (HNE.out hxy)
     have hb:(x == y)=false:=by simpa using hxy
     have hb2:(x != y)=true:=by simp [hxy]
     go_wp2_with fail
     go_quiet (fail)
     go_wp2_with fail
     go_ret
     exact ⟨by rw [HE.out]; rfl,by first | exact HB.out.trans (below_drewN (Below.refl _ _) _) | exact HB.out.drew | exact HB.out⟩
   ·have hin:i=n1:=by omega
    subst hin
    have HE:Hid ((l1 == l2)=true):=Lib.hid (by have:=HT.out; rw [HL1.out,List.take_length,← HL1.out,HL2.out,List.take_length] at this; simp [this])
    go_wp2_with fail
    go_ret
    exact ⟨by rw [HE.out]; rfl,HB.out⟩
 ·have HE:Hid ((l1 == l2)=false):=Lib.hid (by
   simp only [beq_eq_false_iff_ne,ne_eq]
   intro e
   subst e
   exact hn (hl1.trans hl2.symm))
  rw [HE.out]
  clear h1 h2 hl1 hl2
  have hb:((n1:Int) != (n2:Int))=true:=by simp; omega
  have hb2:((n1:Int) == (n2:Int))=false:=by simp; omega
  go_enter Tryz.func27,Tryz.ntmps27
  go_wp2_with fail
  go_ret
  exact ⟨rfl,Below.refl _ _⟩
end Go.Proofs.YtmpmfamiegpmgaaGreatDoor

namespace Go.Proofs.YtmpmfamiegpmgaaGreatDoor
open Go.RowKit
set_option maxRecDepth 20000
set_option linter.unusedVariables false
set_option linter.unusedSimpArgs false

/-- File of the chapter's example. -/
theorem e8_file (w:World) (hk:Kw w):Calls Tryz.prog 17 #[.string s8,.int .i64 0,.int .i64 0] w fun x W=>Below w.heap.size w W∧∃ (nd:Br) (oa:Nat),x=.returned (.tuple #[nd.h.val,.slice (some ⟨oa,0,none⟩) 4 4,.int .i64 0,.int .i64 0]) ∧
  nd.Lies W∧nd.flatB.length=6∧nmsB nd.flatB=[0,3,1,2]∧nd.h.k=1∧oa < W.heap.size ∧
   OccAt W oa 0 ⟨0,4,5,1,true⟩∧OccAt W oa 5 ⟨0,8,9,4,false⟩∧OccAt W oa 10 ⟨0,10,11,1,false⟩∧OccAt W oa 15 ⟨0,12,13,1,false⟩:=by
 refine (astFile_any s8 (by decide) 0 0 (by decide) w hk).mono ?_
 rintro x W ⟨hb,⟨a,c,hc,he,rfl⟩ | ⟨y0,n,v,oa,m,ts,h,rfl⟩⟩
 ·exfalso
  rcases he with ⟨h1,_⟩ | ⟨_,S,h1,h2,_,⟨n,h3,_⟩ | ⟨n,h3,_⟩⟩
  ·exact h1 e8_first
  ·rw [e8_out S h1 h2] at h3; cases h3
  ·rw [e8_out S h1 h2] at h3; cases h3
 ·obtain ⟨nd,rfl,h2,h3,h4,h5,rfl,h7⟩:=e8_at h
  exact ⟨hb,nd,oa,rfl,h2,h3,h4,h5,h7⟩
set_option maxHeartbeats 4000000 in
theorem alive8_any (w:World) (hk:Kw w):Calls Tryz.prog 16 #[] w fun e w'=>e=.returned (.bool true)∧Below w.heap.size w w':=by
 have H1:=Lib.hid (e8_file w hk)
 go_enter Tryz.func16,Tryz.ntmps16
 go_wp2_with fail
 refine H1.out.mono ?_
 rintro x w1 ⟨hb,nd,oa,rfl,h2,h3,h4,h5,h6,h7,h8,h9,h10⟩
 have HB:=Lib.hid hb
 have HL:=Lib.hid h2
 have H3:=Lib.hid h3
 have H4:=Lib.hid h4
 obtain ⟨nh,nk⟩:=nd
 obtain ⟨k,m,f,t,np,nn,nc,ns,kp,kn,kc⟩:=nh
 obtain rfl:k=1:=h5
 have hbx:=box_good _ w1 h2 26
 simp only [Hd.val,Br.h] at hbx ⊢
 obtain ⟨W2,hW2⟩:∃ W2,W2=w1.alloc (.cells #[.int .i64 1,.int .i64 m,.int .i64 f,.int .i64 t,.slice np nn nc,.slice kp kn kc] 26):=⟨_,rfl⟩
 rw [← hW2] at hbx
 have hb2:Below w1.heap.size w1 W2:=by rw [hW2]; exact (Below.refl _ _).alloc (Nat.le_refl _) _
 have oc:∀ {o:Nat} {v:OccV},OccAt w1 oa o v→OccAt W2 oa o v:=fun h=>h.ext fun j _=>hb2.cell (p:=⟨oa,_,none⟩) h6
 obtain ⟨u00,u01,u02,u03,u04⟩:=oc h7
 obtain ⟨u10,u11,u12,u13,u14⟩:=oc h8
 obtain ⟨u20,u21,u22,u23,u24⟩:=oc h9
 obtain ⟨u30,u31,u32,u33,u34⟩:=oc h10
 have hl2:Br.Lies W2 (Br.mk ⟨1,m,f,t,np,nn,nc,ns,kp,kn,kc⟩ nk):=hbx.lies
 have hFIL:(nmsB (Br.mk ⟨1,m,f,t,np,nn,nc,ns,kp,kn,kc⟩ nk).flatB).filter (declX 4 fun i=>i == 0)=[0]:=by rw [h4]; decide
 have HD:=declared_any _ oa 4 4 (fun i=>i == 0) W2 hl2 (by rw [h3]; omega) (Nat.lt_of_lt_of_le h6 hb2.size) (Nat.le_refl _) (fun i hi=>by
  match i,hi with
  | 0,_=>exact u04
  | 1,_=>exact u14
  | 2,_=>exact u24
  | 3,_=>exact u34) (by omega) (by rw [h4]; decide) (by rw [h4]; decide) (by rw [hFIL]; decide)
 rw [hFIL,show (Lib.compact (([0]:List Int).mergeSort fun x y=>decide (x≤y)))=[0] by rw [List.mergeSort_singleton]; rfl] at HD
 have HDD:=Lib.hid HD
 have HSZ:Hid (∀ W,Below W2.heap.size W2 W→Calls Tryz.prog 25 #[.agg #[.int .i64 1,.int .i64 m,.int .i64 f,.int .i64 t,.slice np nn nc,.slice kp kn kc]] W fun x w'=>x=.returned (.int .i64 6)∧Below W.heap.size W w'):=Lib.hid fun W hW=>by
  have:=size_any _ W (hl2.step _ hW) (by rw [h3]; omega)
  rw [h3] at this
  exact this
 have HBX:Hid (∀ W,Below W2.heap.size W2 W→BrAt W w1.heap.size 0 ⟨1,m,f,t,np,nn,nc,ns,kp,kn,kc⟩):=Lib.hid fun W hW=>hbx.at_.step hbx.lt hW
 obtain ⟨c0,c1,c2,c3,c4,c5⟩:=HBX.out W2 (Below.refl _ _)
 dsimp only at c0 c1 c2 c3 c4 c5
 have HB2:=Lib.hid hb2
 clear h2 h3 h4 hb H1 oc h7 h8 h9 h10 hl2 hFIL hb2 hbx HD HL H3 H4
 go_wp2_with fail
 rw [← hW2]
 clear hW2
 refine (no_any 0 _).mono ?_
 rintro x w2 ⟨rfl,rfl⟩
 go_wp2_with fail
 refine HDD.out.mono ?_
 rintro x w3 ⟨g,cap,rfl,hrow,hb3⟩
 have hc0:=own_cell hrow 0 (.int .i64 0) rfl
 obtain ⟨_,hgl,hcap,_⟩:=own_at hrow
 have hb4:Below w3.heap.size w3 (w3.alloc (.cells #[.int .i64 0] 3)):=(Below.refl _ _).alloc (Nat.le_refl _) _
 have HI:=Lib.hid (ints27_any [0] [0] (some ⟨g,0,none⟩) (some ⟨w3.heap.size,0,none⟩) 1 cap 1 1 (w3.alloc (.cells #[.int .i64 0] 3))
  ⟨rfl,.inr ⟨g,0,rfl,hcap,Nat.lt_of_lt_of_le hgl hb4.size,fun i hi=>by
   have:i=0:=by simpa using hi
   subst this
   exact (hb4.cell (p:=⟨g,0,none⟩) hgl).trans hc0⟩⟩
  ⟨rfl,.inr ⟨w3.heap.size,0,rfl,Nat.le_refl _,by simp,fun i hi=>by
   have:i=0:=by simpa using hi
   subst this
   rw [Lib.cell_of_heap (heap_alloc_new w3 _)]; rfl⟩⟩ (by omega) (by omega))
 have HB4:Hid (Below W2.heap.size W2 (w3.alloc (.cells #[.int .i64 0] 3))):=Lib.hid (hb3.trans (hb4.mono hb3.size))
 clear hrow hc0 hgl hcap hb3 hb4 HDD c0 c1 c2 c3 c4 c5 u00 u01 u02 u03 u04 u10 u11 u12 u13 u14 u20 u21 u22 u23 u24 u30 u31 u32 u33 u34
 go_wp2_with fail
 refine HI.out.mono ?_
 rintro x w5 ⟨rfl,hb5⟩
 have hb6:=HB4.out.trans (hb5.mono HB4.out.size)
 obtain ⟨c0,c1,c2,c3,c4,c5⟩:=HBX.out w5 hb6
 dsimp only at c0 c1 c2 c3 c4 c5
 have HS:=Lib.hid (HSZ.out w5 hb6)
 have HB7:Hid (Below w.heap.size w w5):=Lib.hid (HB.out.trans ((HB2.out.trans (hb6.mono HB2.out.size)).mono HB.out.size))
 clear hb5 hb6 HI HB4 HSZ HBX
 go_wp2_with fail
 refine HS.out.mono ?_
 rintro x w8 ⟨rfl,hb8⟩
 have HB8:Hid (Below w.heap.size w w8):=Lib.hid (HB7.out.trans (hb8.mono HB7.out.size))
 clear hb8 HS c0 c1 c2 c3 c4 c5
 go_wp2_with fail
 go_ret
 exact ⟨rfl,HB8.out⟩
end Go.Proofs.YtmpmfamiegpmgaaGreatDoor

namespace Go.Proofs.YtmpmfamiegpmgaaGreatDoor
open Go.RowKit
set_option maxRecDepth 20000
set_option linter.unusedVariables false
set_option linter.unusedSimpArgs false

theorem infoNode:(Tryz.prog.info? 26).map (fun i=>(i.zero,i.size,i.bytes))=some (some (.agg #[.int .i64 0,.int .i64 0,.int .i64 0,.int .i64 0,.slice none 0 0,.slice none 0 0]),6,80):=by kernel_rfl
set_option maxHeartbeats 4000000 in
theorem refAll_any (b:Br):∀ (w:World),b.Lies w→b.flatB.length≤10000000 →
  Calls Tryz.prog 23 #[b.h.val] w fun e w'=>∃ v,e=.returned v∧w'.ownsRow w.heap.size 26 6 v b.flatB.length (cellsK b.flatB)∧Below w.heap.size w w':=by
 obtain ⟨i0,hi0,hy0,hy1,hy2⟩:=info_parts infoNode
 induction b using Br.ind with
 | hP h ks ih =>
  intro w hl hsz
  have hbx:=box_good _ w hl 26
  rw [flatB_eq,show (Br.mk h ks).ks=ks from rfl] at hsz ⊢
  simp only [List.length_cons] at hsz ⊢
  obtain ⟨_,hkids,hall⟩:=(lies_iff _ _).1 hl
  simp only [Br.h,Br.ks] at hkids hall hbx ⊢
  obtain ⟨hk,hm,hf,ht,np,nn,nc,ns,kp,kn,kc⟩:=h
  have hkn:kn=ks.length:=hkids.1
  subst hkn
  simp only at hbx
  have HK:=Lib.hid hkids
  have HL:=Lib.hid hall
  have HI:=Lib.hid ih
  have b0:Below w.heap.size w (w.alloc (.cells #[.int .i64 hk,.int .i64 hm,.int .i64 hf,.int .i64 ht,.slice np nn nc,.slice kp ks.length kc] 26)):=(Below.refl _ _).alloc (Nat.le_refl _) _
  have hw0:(w.alloc (.cells #[.int .i64 hk,.int .i64 hm,.int .i64 hf,.int .i64 ht,.slice np nn nc,.slice kp ks.length kc] 26)).heap.size=w.heap.size+1:=by simp
  have HAT:=Lib.hid (fun W (hW:Below (w.alloc (.cells #[.int .i64 hk,.int .i64 hm,.int .i64 hf,.int .i64 ht,.slice np nn nc,.slice kp ks.length kc] 26)).heap.size (w.alloc (.cells #[.int .i64 hk,.int .i64 hm,.int .i64 hf,.int .i64 ht,.slice np nn nc,.slice kp ks.length kc] 26)) W)=>(show BrAt W w.heap.size 0 ⟨hk,hm,hf,ht,np,nn,nc,ns,kp,ks.length,kc⟩ from hbx.at_.step hbx.lt hW))
  obtain ⟨c0,c1,c2,c3,c4,c5⟩:=HAT.out _ (Below.refl _ _)
  dsimp only at c0 c1 c2 c3 c4 c5
  have B0:=Lib.hid b0
  have HW0:=Lib.hid hw0
  clear hkids hall ih hl b0 hw0 hbx
  go_enter Tryz.func23,Tryz.ntmps23
  simp only [Hd.val]
  go_wp2_with fail
  obtain ⟨w1,hw1⟩:∃ w1,w1=(w.alloc (.cells #[.int .i64 hk,.int .i64 hm,.int .i64 hf,.int .i64 ht,.slice np nn nc,.slice kp ks.length kc] 26)).alloc (.cells #[.int .i64 hk,.int .i64 hm,.int .i64 hf,.int .i64 ht,.slice np nn nc,.slice kp ks.length kc] 26):=⟨_,rfl⟩
  have hown1:w1.ownsRow (w.heap.size+1) 26 6 (.slice (some ⟨w.heap.size+1,0,none⟩) 1 1) 1 [.int .i64 hk,.int .i64 hm,.int .i64 hf,.int .i64 ht,.slice np nn nc,.slice kp ks.length kc]:=by
   rw [hw1]
   have h1:=heap_alloc_new (w.alloc (.cells #[.int .i64 hk,.int .i64 hm,.int .i64 hf,.int .i64 ht,.slice np nn nc,.slice kp ks.length kc] 26)) (.cells #[.int .i64 hk,.int .i64 hm,.int .i64 hf,.int .i64 ht,.slice np nn nc,.slice kp ks.length kc] 26)
   rw [HW0.out] at h1
   exact own_lit h1 (Nat.le_refl _) rfl (by unfold maxLen; omega)
  have hb1:Below (w.alloc (.cells #[.int .i64 hk,.int .i64 hm,.int .i64 hf,.int .i64 ht,.slice np nn nc,.slice kp ks.length kc] 26)).heap.size (w.alloc (.cells #[.int .i64 hk,.int .i64 hm,.int .i64 hf,.int .i64 ht,.slice np nn nc,.slice kp ks.length kc] 26)) w1:=by rw [hw1]; exact (Below.refl _ _).alloc (Nat.le_refl _) _
  rw [← hw1]
  obtain ⟨w0,hw0⟩:∃ w0,w0=w.alloc (.cells #[.int .i64 hk,.int .i64 hm,.int .i64 hf,.int .i64 ht,.slice np nn nc,.slice kp ks.length kc] 26):=⟨_,rfl⟩
  rw [← hw0] at HAT B0 HW0 hb1
  have HLB:Hid (∀ W,Below w0.heap.size w0 W→Below w.heap.size w W):=Lib.hid fun W hW=>B0.out.trans (hW.mono B0.out.size)
  clear c0 c1 c2 c3 c4 c5 hw1 hw0
  have HO1:=Lib.hid hown1
  have HB1:=Lib.hid hb1
  clear hown1 hb1
  have hz0:=HW0.out
  obtain ⟨hd,hhd⟩:∃ hd:Hd,hd=⟨hk,hm,hf,ht,np,nn,nc,ns,kp,ks.length,kc⟩:=⟨_,rfl⟩
  have HHD:=Lib.hid hhd
  have HRES:Hid (∀ (v:Value) (W:World),W.ownsRow (w.heap.size+1) 26 6 v (1+(flatsB ks).length) (hcells hd++cellsK (flatsB ks))→W.ownsRow w.heap.size 26 6 v ((flatsB ks).length+1) (cellsK (.mk hd ks :: flatsB ks))):=Lib.hid fun v W h=>by
   rw [show (flatsB ks).length+1=1+(flatsB ks).length by omega]
   exact own_base h (by omega)
  clear hhd
  have hkl1:=flatsB_len ks
  go_loopw [3,4] (fun v i wr=>∃ k:Nat,k≤ks.length∧i=.int .i64 k∧Hid (wr.ownsRow (w.heap.size+1) 26 6 v (1+(flatsB (ks.take k)).length) (hcells hd++cellsK (flatsB (ks.take k))))∧Below w0.heap.size w0 wr) (fun _ i _=>ks.length - (intOf i).toNat)
  case atStart=>exact ⟨0,by omega,rfl,Lib.hid (by rw [HHD.out]; exact HO1.out),HB1.out⟩
  case round =>
   obtain ⟨k,hk0,rfl,HO,hbe⟩:=hrel
   obtain ⟨a0,a1,a2,a3,a4,a5⟩:=HAT.out _ hbe
   dsimp only at a0 a1 a2 a3 a4 a5
   have hz:=hbe.size
   have hml:=flatsB_le ks k
   obtain ⟨m,hme⟩:∃ m,m=1+(flatsB (ks.take k)).length:=⟨_,rfl⟩
   rw [← hme] at HO
   have HME:=Lib.hid hme
   by_cases hlt:k < ks.length
   ·obtain ⟨b1,off,rfl,hcap,hb1,hkat⟩:=((HK.out.step (HLB.out _ hbe))).2.resolve_left (by omega)
    obtain ⟨c0,c1,c2,c3,c4,c5⟩:=hkat k hlt
    have hxl:=(HL.out ks[k] (List.getElem_mem hlt)).step _ (HLB.out _ hbe)
    have hts:=flatsB_take hlt
    have htl:=flatsB_le ks (k+1)
    rw [hts,List.length_append] at htl
    have hp:=flatB_pos ks[k]
    have HX:=Lib.hid (HI.out ks[k] (List.getElem_mem hlt) wr hxl (by omega))
    have HTS:=Lib.hid hts
    have hmm:m+ks[k].flatB.length≤20000000:=by omega
    have hm1:1≤m:=by omega
    obtain ⟨g,c,rfl,_,hg,hgc,hgm⟩:=own_pos HO.out (by omega)
    have HBE:=Lib.hid hbe
    have hr1:(0:Int)≤(k:Int):=by omega
    have hr2:(k:Int) < (ks.length:Int):=by omega
    clear hme hkat hxl hts htl hbe hml
    generalize ks[k]=x at *
    go_wp2_with fail
    refine HX.out.mono ?_
    rintro e w2 ⟨v2,rfl,hown2,hb2⟩
    obtain ⟨xs,hxs⟩:∃ xs,xs=x.flatB.length:=⟨_,rfl⟩
    rw [← hxs] at hown2 hp hmm
    have HXS:=Lib.hid hxs
    obtain ⟨g2,c2',rfl,hg2,hg2',_,_⟩:=own_pos hown2 (by omega)
    have hz2:=hb2.size
    have HO2:=Lib.hid hown2
    have HB2:=Lib.hid hb2
    clear hown2 hb2 hxs
    go_wp2_with (at_builtin; refine wpList_append_own _ rfl _ _ 24 rfl (w.heap.size+1) 26 i0 _ 6 80 Tryz.underlying24 hi0 hy0 hy1 hy2 rfl (by omega) _ m _ rfl (ownsRow_below HO.out HB2.out) ⟨g2,0,none⟩ xs c2' (cellsK x.flatB) rfl (by rw [cellsK_length,HXS.out]) (own_news HO2.out) (cellsK_one x.flatB) (by unfold maxLen; omega) (by omega) (by omega) ?_)
    intro v3 w3 hown3 hgrow _
    have HB3:=Lib.hid ((HBE.out.trans (HB2.out.mono hz)).grown hgrow (by omega) (fun q hq=>(by rw [HW0.out]; exact (HO.out.lt q hq).1)))
    have HO3:Hid (w3.ownsRow (w.heap.size+1) 26 6 v3 (1+(flatsB (ks.take (k+1))).length) (hcells hd++cellsK (flatsB (ks.take (k+1))))):=Lib.hid (by
     rw [HTS.out,List.length_append,cellsK_append,← List.append_assoc,← HXS.out,show 1+((flatsB (ks.take k)).length+xs)=m+xs by rw [HME.out]; omega]; exact hown3)
    clear hown3 hgrow
    go_wp2_with fail
    go_roundw
    case rel=>exact ⟨k+1,by omega,by go_num,HO3,HB3.out⟩
    case measure=>simp [intOf]; omega
   ·have HTL:=Lib.hid (List.take_of_length_le (l:=ks) (i:=k) (by omega))
    have HB:=Lib.hid hbe
    have hO:=HO.out
    rw [HME.out,HTL.out] at hO
    have HF:=Lib.hid (HRES.out _ wr hO)
    clear hO
    clear hbe hml hme
    go_wp2_with fail
    go_ret
    exact ⟨_,rfl,by rw [← HHD.out]; exact HF.out,HLB.out _ HB.out⟩
end Go.Proofs.YtmpmfamiegpmgaaGreatDoor
