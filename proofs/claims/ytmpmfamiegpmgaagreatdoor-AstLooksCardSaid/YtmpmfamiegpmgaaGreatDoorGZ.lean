/-
  The chapter's example of layer 8, its tokens and its branch.; The chapter's example of layer 8: its node and its occurrences.
-/
import Derived.Test.YtmpmfamiegpmgaaGreatDoorGY
namespace Go.Proofs.YtmpmfamiegpmgaaGreatDoor
open Go.RowKit
set_option maxRecDepth 20000
set_option linter.unusedVariables false
set_option linter.unusedSimpArgs false
theorem Zx:dJ [118,97,108,32,120,32,61,32,77,46,121,32,43,32,49]=(10,3):=(by kernel_rfl:dJ [118,97,108,32,120,32,61,32,77,46,121,32,43,32,49]=(dA [118,97,108],3)).trans (by rw [kz (by decide) zi rfl])
theorem ZB:dJ [32,120,32,61,32,77,46,121,32,43,32,49]=(1,1):=by kernel_rfl
theorem ZR:dJ [120,32,61,32,77,46,121,32,43,32,49]=(6,1):=(by kernel_rfl:dJ [120,32,61,32,77,46,121,32,43,32,49]=(dA [120],1)).trans (by rw [kz (by decide) Wy rfl])
theorem Zl:dJ [32,61,32,77,46,121,32,43,32,49]=(1,1):=by kernel_rfl
theorem ZZ:dJ [61,32,77,46,121,32,43,32,49]=(11,1):=(by kernel_rfl:dJ [61,32,77,46,121,32,43,32,49]=(dA [61],1)).trans (by rw [kz (by decide) Zg rfl])
theorem ZQ:dJ [32,77,46,121,32,43,32,49]=(1,1):=by kernel_rfl
theorem Zi:dJ [77,46,121,32,43,32,49]=(7,1):=(by kernel_rfl:dJ [77,46,121,32,43,32,49]=(dA [77],1)).trans (by rw [kz (by decide) Zw rfl])
theorem ZI:dJ [46,121,32,43,32,49]=(11,1):=(by kernel_rfl:dJ [46,121,32,43,32,49]=(dA [46],1)).trans (by rw [kz (by decide) Zk rfl])
theorem Zv:dJ [121,32,43,32,49]=(6,1):=(by kernel_rfl:dJ [121,32,43,32,49]=(dA [121],1)).trans (by rw [kz (by decide) WO rfl])
theorem Zt:dJ [32,43,32,49]=(1,1):=by kernel_rfl
theorem WU:dJ [43,32,49]=(9,1):=(by kernel_rfl:dJ [43,32,49]=(dA [43],1)).trans (by rw [kz (by decide) ZF rfl])
theorem WG:dJ [32,49]=(1,1):=by kernel_rfl
theorem WP:dJ [49]=(4,1):=by kernel_rfl
theorem GR:sF ⟨#[118,97,108,32,120,32,61,32,77,46,121,32,43,32,49]⟩=[⟨10,0,3⟩,⟨1,3,4⟩,⟨6,4,5⟩,⟨1,5,6⟩,⟨11,6,7⟩,⟨1,7,8⟩,⟨7,8,9⟩,⟨11,9,10⟩,⟨6,10,11⟩,⟨1,11,12⟩,⟨9,12,13⟩,⟨1,13,14⟩,⟨4,14,15⟩,⟨0,15,15⟩]:=by
 show eG 15 0 [118,97,108,32,120,32,61,32,77,46,121,32,43,32,49]++[⟨0,15,15⟩]=_
 simp [eG,Zx,ZB,ZR,Zl,ZZ,ZQ,Zi,ZI,Zv,Zt,WU,WG,WP]
theorem lQ:bC ⟨#[118,97,108,32,120,32,61,32,77,46,121,32,43,32,49]⟩=[⟨10,0,3⟩,⟨6,4,5⟩,⟨11,6,7⟩,⟨7,8,9⟩,⟨11,9,10⟩,⟨6,10,11⟩,⟨9,12,13⟩,⟨4,14,15⟩,⟨0,15,15⟩]:=by
 unfold bC; rw [GR]; rfl
theorem Nr:(fO ⟨#[118,97,108,32,120,32,61,32,77,46,121,32,43,32,49]⟩).2=0:=by
 unfold fO; rw [GR]; decide
theorem Ew (S:Src) (h1:S.s=⟨#[118,97,108,32,120,32,61,32,77,46,121,32,43,32,49]⟩) (h2:S.ts=bC ⟨#[118,97,108,32,120,32,61,32,77,46,121,32,43,32,49]⟩):gJ S (nG S)=.ok (.mk 1 0 0 8 [] [(.mk 3 0 0 8 [] [(.mk 39 0 1 2 [1] []),(.mk 37 0 3 8 [6] [(.mk 28 0 3 6 [3,5] []),(.mk 26 0 7 8 [] [])])])]) 8:=by
 rw [lQ] at h2;obtain ⟨s,ts,g,gw,cw⟩:=S
 simp only at h1 h2
 subst h1 h2
 kernel_rfl
abbrev s8:ByteArray:=⟨#[118,97,108,32,120,32,61,32,77,46,121,32,43,32,49]⟩
abbrev b8:Pb:=(.mk 1 0 0 8 [] [(.mk 3 0 0 8 [] [(.mk 39 0 1 2 [1] []),(.mk 37 0 3 8 [6] [(.mk 28 0 3 6 [3,5] []),(.mk 26 0 7 8 [] [])])])])
abbrev n8:Pb:=(.mk 1 0 0 15 [] [(.mk 3 0 0 15 [] [(.mk 39 0 4 5 [0] []),(.mk 37 0 8 15 [3] [(.mk 28 0 8 11 [1,2] []),(.mk 26 0 14 15 [] [])])])])
mutual
def nD:Pb→List (Int × List Int)
 | .mk k _ _ _ ns ks=>(k,ns) :: mY ks
def mY:List Pb→List (Int × List Int)
 | []=>[]
 | b :: r=>nD b++mY r
end
theorem FW (ks:List Br) (ih:∀ k ∈ ks,k.flatB.map (fun z=>(z.h.k,z.h.ns))=nD k.pb):(aB ks).map (fun z=>(z.h.k,z.h.ns))=mY (ks.map Br.pb):=by
 induction ks with
 | nil=>rfl
 | cons x r ihr =>
  simp only [aB,List.map_append,List.map_cons,mY];rw [ih x (by simp),ihr fun k hk=>ih k (by simp [hk])]
theorem vw (y:Br):y.flatB.map (fun z=>(z.h.k,z.h.ns))=nD y.pb:=by
 induction y using Br.ind with
 | hP h ks ih =>
  rw [cZ];simp only [Br.pb,eF,nD,List.map_cons];rw [show (Br.mk h ks).ks=ks from rfl,FW ks ih]
  rfl
mutual
def Qh (L:List Tok) (first:Int) (ts:List Int):Pb→Pb
 | .mk k m f t ns ks=>.mk k m (iI L f.toNat t.toNat).1 (iI L f.toNat t.toNat).2 (ns.map (lY first ts)) (Gs L first ts ks)
def Gs (L:List Tok) (first:Int) (ts:List Int):List Pb→List Pb
 | []=>[]
 | b :: r=>Qh L first ts b :: Gs L first ts r
end
theorem Il (L:List Tok) (first:Int) (ts:List Int) (ks:List Pb):Gs L first ts ks=ks.map (Qh L first ts):=by
 induction ks with
 | nil=>rfl
 | cons x r ih=>simp only [Gs,List.map_cons,ih]
theorem Pj (L:List Tok) (first:Int) (ts:List Int) (y:Br):tK L first ts y=Qh L first ts y.pb:=by
 induction y using Br.ind with
 | hP h ks ih =>
  simp only [tK,Br.pb,eF,Qh,xO,Il,List.map_map]
  congr 1
  exact List.map_congr_left fun k hk=>ih k hk
theorem vW {a b:List Int} (ha:kL a) (hb:kL b) (h:∀ x,x ∈ a ↔ x ∈ b):a=b:=by
 have na:a.Nodup:=ha.imp fun h=>by omega
 have nb:b.Nodup:=hb.imp fun h=>by omega
 have hp:a.Perm b:=(List.perm_ext_iff_of_nodup na nb).2 h;exact hp.eq_of_pairwise (fun x y _ _ h1 h2=>by omega) ha hb
theorem xG (y:Br):aS y.flatB=(nD y.pb).flatMap (·.2):=by
 rw [← vw,aS,List.flatMap_map]
theorem WN {y0:Br} {n:Nat} {v:Value} {oa m:Nat} {ts:List Int} {W:World} (h:Ef s8 0 0 y0 n v oa m ts W) :
  ∃ nd:Br,v=nd.h.val∧nd.Lies W∧nd.flatB.length=6∧aS nd.flatB=[0,3,1,2]∧nd.h.k=1∧m=4∧oa < W.heap.size ∧
   gq W oa 0 ⟨0,4,5,1,true⟩∧gq W oa 5 ⟨0,8,9,4,false⟩∧gq W oa 10 ⟨0,10,11,1,false⟩∧gq W oa 15 ⟨0,12,13,1,false⟩:=by
 obtain ⟨⟨_,S,h1,h2,hG,h3⟩,⟨nd,rfl,hl,hp⟩,hr,hm,hmem,KF,oW⟩:=h;have hpb:y0.pb=b8:=by
  rw [Ew S h1 h2] at h3
  injection h3 with h3 _
  exact h3.symm
 have hts:ts=[1,3,5,6]:=by
  refine vW hr (by unfold kL; decide) fun x=>?_
  rw [hmem x,xG,hpb];simp only [b8,nD,mY]
  simp
  omega
 subst hts;rw [Pj,hpb,lQ] at hp;have Xm:nd.pb=n8:=hp.trans (by kernel_rfl);have hfl:nd.flatB.map (fun z=>(z.h.k,z.h.ns))=nD n8:=by rw [vw,Xm]
 have ho:∀ i t,[1,3,5,6][i]?=some t→∃ k ns,(k,ns) ∈ nD b8∧∃ j:Nat,ns[j]?=some t∧gq W oa (i * 5) (wZ (bC s8) 0 k ns.length j t):=fun i t hi=>by
  obtain ⟨z,hz,j,hj,ho⟩:=oW i t hi;refine ⟨z.h.k,z.h.ns,?_,j,hj,ho⟩
  rw [← hpb,← vw];exact List.mem_map.2 ⟨z,hz,rfl⟩
 refine ⟨nd,rfl,hl,?_,?_,?_,by simpa using hm.symm,KF,?_,?_,?_,?_⟩
 ·have:=congrArg List.length hfl
  rw [List.length_map] at this;rw [this]; rfl
 ·rw [xG,Xm]; rfl
 ·obtain ⟨hd,ks⟩:=nd
  simp only [Br.pb,Pb.mk.injEq] at Xm;exact Xm.1
 ·obtain ⟨k,ns,hin,j,hj,ho⟩:=ho 0 1 rfl
  simp only [b8,nD,mY,List.append_nil,List.nil_append,List.cons_append,List.mem_cons,Prod.mk.injEq,List.not_mem_nil,or_false] at hin;rw [lQ] at ho
  rcases hin with ⟨rfl,rfl⟩ | ⟨rfl,rfl⟩ | ⟨rfl,rfl⟩ | ⟨rfl,rfl⟩ | ⟨rfl,rfl⟩ | ⟨rfl,rfl⟩ <;> rcases j with _ | _ | j <;> first | (exfalso; simp at hj; done) | exact ho
 ·obtain ⟨k,ns,hin,j,hj,ho⟩:=ho 1 3 rfl
  simp only [b8,nD,mY,List.append_nil,List.nil_append,List.cons_append,List.mem_cons,Prod.mk.injEq,List.not_mem_nil,or_false] at hin;rw [lQ] at ho
  rcases hin with ⟨rfl,rfl⟩ | ⟨rfl,rfl⟩ | ⟨rfl,rfl⟩ | ⟨rfl,rfl⟩ | ⟨rfl,rfl⟩ | ⟨rfl,rfl⟩ <;> rcases j with _ | _ | j <;> first | (exfalso; simp at hj; done) | exact ho
 ·obtain ⟨k,ns,hin,j,hj,ho⟩:=ho 2 5 rfl
  simp only [b8,nD,mY,List.append_nil,List.nil_append,List.cons_append,List.mem_cons,Prod.mk.injEq,List.not_mem_nil,or_false] at hin;rw [lQ] at ho
  rcases hin with ⟨rfl,rfl⟩ | ⟨rfl,rfl⟩ | ⟨rfl,rfl⟩ | ⟨rfl,rfl⟩ | ⟨rfl,rfl⟩ | ⟨rfl,rfl⟩ <;> rcases j with _ | _ | j <;> first | (exfalso; simp at hj; done) | exact ho
 ·obtain ⟨k,ns,hin,j,hj,ho⟩:=ho 3 6 rfl
  simp only [b8,nD,mY,List.append_nil,List.nil_append,List.cons_append,List.mem_cons,Prod.mk.injEq,List.not_mem_nil,or_false] at hin;rw [lQ] at ho
  rcases hin with ⟨rfl,rfl⟩ | ⟨rfl,rfl⟩ | ⟨rfl,rfl⟩ | ⟨rfl,rfl⟩ | ⟨rfl,rfl⟩ | ⟨rfl,rfl⟩ <;> rcases j with _ | _ | j <;> first | (exfalso; simp at hj; done) | exact ho
end Go.Proofs.YtmpmfamiegpmgaaGreatDoor
