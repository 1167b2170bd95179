/-
  The chapter's example of layer 8, its tokens and its branch.; The chapter's example of layer 8: its node and its occurrences.
-/
import Derived.Test.YtmpmfamiegpmgaaGreatDoorFY
namespace Go.Proofs.YtmpmfamiegpmgaaGreatDoor
open Go.RowKit
set_option maxRecDepth 20000
set_option linter.unusedVariables false
set_option linter.unusedSimpArgs false
theorem Y5:bf [118,97,108,32,120,32,61,32,77,46,121,32,43,32,49]=(10,3):=(by kernel_rfl:bf [118,97,108,32,120,32,61,32,77,46,121,32,43,32,49]=(df [118,97,108],3)).trans (by rw [lq (by decide) zL rfl])
theorem YF:bf [32,120,32,61,32,77,46,121,32,43,32,49]=(1,1):=by kernel_rfl
theorem Zg:bf [120,32,61,32,77,46,121,32,43,32,49]=(6,1):=(by kernel_rfl:bf [120,32,61,32,77,46,121,32,43,32,49]=(df [120],1)).trans (by rw [lq (by decide) VW rfl])
theorem YY:bf [32,61,32,77,46,121,32,43,32,49]=(1,1):=by kernel_rfl
theorem Zc:bf [61,32,77,46,121,32,43,32,49]=(11,1):=(by kernel_rfl:bf [61,32,77,46,121,32,43,32,49]=(df [61],1)).trans (by rw [lq (by decide) Y8 rfl])
theorem YK:bf [32,77,46,121,32,43,32,49]=(1,1):=by kernel_rfl
theorem Zj:bf [77,46,121,32,43,32,49]=(7,1):=(by kernel_rfl:bf [77,46,121,32,43,32,49]=(df [77],1)).trans (by rw [lq (by decide) YN rfl])
theorem Y3:bf [46,121,32,43,32,49]=(11,1):=(by kernel_rfl:bf [46,121,32,43,32,49]=(df [46],1)).trans (by rw [lq (by decide) Y4 rfl])
theorem Zb:bf [121,32,43,32,49]=(6,1):=(by kernel_rfl:bf [121,32,43,32,49]=(df [121],1)).trans (by rw [lq (by decide) Wn rfl])
theorem Ze:bf [32,43,32,49]=(1,1):=by kernel_rfl
theorem WE:bf [43,32,49]=(9,1):=(by kernel_rfl:bf [43,32,49]=(df [43],1)).trans (by rw [lq (by decide) Zf rfl])
theorem V5:bf [32,49]=(1,1):=by kernel_rfl
theorem Wy:bf [49]=(4,1):=by kernel_rfl
theorem G5:jZ ⟨#[118,97,108,32,120,32,61,32,77,46,121,32,43,32,49]⟩=[⟨10,0,3⟩,⟨1,3,4⟩,⟨6,4,5⟩,⟨1,5,6⟩,⟨11,6,7⟩,⟨1,7,8⟩,⟨7,8,9⟩,⟨11,9,10⟩,⟨6,10,11⟩,⟨1,11,12⟩,⟨9,12,13⟩,⟨1,13,14⟩,⟨4,14,15⟩,⟨0,15,15⟩]:=by
 show dB 15 0 [118,97,108,32,120,32,61,32,77,46,121,32,43,32,49]++[⟨0,15,15⟩]=_
 simp [dB,Y5,YF,Zg,YY,Zc,YK,Zj,Y3,Zb,Ze,WE,V5,Wy]
theorem mP:aN ⟨#[118,97,108,32,120,32,61,32,77,46,121,32,43,32,49]⟩=[⟨10,0,3⟩,⟨6,4,5⟩,⟨11,6,7⟩,⟨7,8,9⟩,⟨11,9,10⟩,⟨6,10,11⟩,⟨9,12,13⟩,⟨4,14,15⟩,⟨0,15,15⟩]:=by
 unfold aN; rw [G5]; rfl
theorem LK:(fC ⟨#[118,97,108,32,120,32,61,32,77,46,121,32,43,32,49]⟩).2=0:=by
 unfold fC; rw [G5]; decide
theorem FH (S:Src) (h1:S.s=⟨#[118,97,108,32,120,32,61,32,77,46,121,32,43,32,49]⟩) (h2:S.ts=aN ⟨#[118,97,108,32,120,32,61,32,77,46,121,32,43,32,49]⟩):fA S (jG S)=.ok (.mk 1 0 0 8 [] [(.mk 3 0 0 8 [] [(.mk 39 0 1 2 [1] []),(.mk 37 0 3 8 [6] [(.mk 28 0 3 6 [3,5] []),(.mk 26 0 7 8 [] [])])])]) 8:=by
 rw [mP] at h2
 obtain ⟨s,ts,g,gw,cw⟩:=S
 simp only at h1 h2
 subst h1 h2
 kernel_rfl
abbrev s8:ByteArray:=⟨#[118,97,108,32,120,32,61,32,77,46,121,32,43,32,49]⟩
abbrev b8:Pb:=(.mk 1 0 0 8 [] [(.mk 3 0 0 8 [] [(.mk 39 0 1 2 [1] []),(.mk 37 0 3 8 [6] [(.mk 28 0 3 6 [3,5] []),(.mk 26 0 7 8 [] [])])])])
abbrev n8:Pb:=(.mk 1 0 0 15 [] [(.mk 3 0 0 15 [] [(.mk 39 0 4 5 [0] []),(.mk 37 0 8 15 [3] [(.mk 28 0 8 11 [1,2] []),(.mk 26 0 14 15 [] [])])])])
mutual
def lu:Pb→List (Int × List Int)
 | .mk k _ _ _ ns ks=>(k,ns) :: nH ks
def nH:List Pb→List (Int × List Int)
 | []=>[]
 | b :: r=>lu b++nH r
end
theorem Gi (ks:List Br) (ih:∀ k ∈ ks,k.flatB.map (fun z=>(z.h.k,z.h.ns))=lu k.pb):(aY ks).map (fun z=>(z.h.k,z.h.ns))=nH (ks.map Br.pb):=by
 induction ks with
 | nil=>rfl
 | cons x r ihr =>
  simp only [aY,List.map_append,List.map_cons,nH]
  rw [ih x (by simp),ihr fun k hk=>ih k (by simp [hk])]
theorem oV (y:Br):y.flatB.map (fun z=>(z.h.k,z.h.ns))=lu y.pb:=by
 induction y using Br.ind with
 | hP h ks ih =>
  rw [iq]
  simp only [Br.pb,eY,lu,List.map_cons]
  rw [show (Br.mk h ks).ks=ks from rfl,Gi ks ih]
  rfl
mutual
def yu (L:List Tok) (first:Int) (ts:List Int):Pb→Pb
 | .mk k m f t ns ks=>.mk k m (eQ L f.toNat t.toNat).1 (eQ L f.toNat t.toNat).2 (ns.map (jQ first ts)) (yH L first ts ks)
def yH (L:List Tok) (first:Int) (ts:List Int):List Pb→List Pb
 | []=>[]
 | b :: r=>yu L first ts b :: yH L first ts r
end
theorem yQ (L:List Tok) (first:Int) (ts:List Int) (ks:List Pb):yH L first ts ks=ks.map (yu L first ts):=by
 induction ks with
 | nil=>rfl
 | cons x r ih=>simp only [yH,List.map_cons,ih]
theorem GI (L:List Tok) (first:Int) (ts:List Int) (y:Br):qm L first ts y=yu L first ts y.pb:=by
 induction y using Br.ind with
 | hP h ks ih =>
  simp only [qm,Br.pb,eY,yu,zB,yQ,List.map_map]
  congr 1
  exact List.map_congr_left fun k hk=>ih k hk
theorem xu {a b:List Int} (ha:oz a) (hb:oz b) (h:∀ x,x ∈ a ↔ x ∈ b):a=b:=by
 have na:a.Nodup:=ha.imp fun h=>by omega
 have nb:b.Nodup:=hb.imp fun h=>by omega
 have hp:a.Perm b:=(List.perm_ext_iff_of_nodup na nb).2 h
 exact hp.eq_of_pairwise (fun x y _ _ h1 h2=>by omega) ha hb
theorem mQ (y:Br):cO y.flatB=(lu y.pb).flatMap (·.2):=by
 rw [← oV,cO,List.flatMap_map]
theorem We {y0:Br} {n:Nat} {v:Value} {oa m:Nat} {ts:List Int} {W:World} (h:Ad s8 0 0 y0 n v oa m ts W) :
  ∃ nd:Br,v=nd.h.val∧nd.Lies W∧nd.flatB.length=6∧cO nd.flatB=[0,3,1,2]∧nd.h.k=1∧m=4∧oa < W.heap.size ∧
   gz W oa 0 ⟨0,4,5,1,true⟩∧gz W oa 5 ⟨0,8,9,4,false⟩∧gz W oa 10 ⟨0,10,11,1,false⟩∧gz W oa 15 ⟨0,12,13,1,false⟩:=by
 obtain ⟨⟨_,S,h1,h2,hG,h3⟩,⟨nd,rfl,hl,hp⟩,hr,hm,hmem,EM,zH⟩:=h
 have hpb:y0.pb=b8:=by
  rw [FH S h1 h2] at h3
  injection h3 with h3 _
  exact h3.symm
 have hts:ts=[1,3,5,6]:=by
  refine xu hr (by unfold oz; decide) fun x=>?_
  rw [hmem x,mQ,hpb]
  simp only [b8,lu,nH]
  simp
  omega
 subst hts
 rw [GI,hpb,mP] at hp
 have WS:nd.pb=n8:=hp.trans (by kernel_rfl)
 have hfl:nd.flatB.map (fun z=>(z.h.k,z.h.ns))=lu n8:=by rw [oV,WS]
 have ho:∀ i t,[1,3,5,6][i]?=some t→∃ k ns,(k,ns) ∈ lu b8∧∃ j:Nat,ns[j]?=some t∧gz W oa (i * 5) (oH (aN s8) 0 k ns.length j t):=fun i t hi=>by
  obtain ⟨z,hz,j,hj,ho⟩:=zH i t hi
  refine ⟨z.h.k,z.h.ns,?_,j,hj,ho⟩
  rw [← hpb,← oV]
  exact List.mem_map.2 ⟨z,hz,rfl⟩
 refine ⟨nd,rfl,hl,?_,?_,?_,by simpa using hm.symm,EM,?_,?_,?_,?_⟩
 ·have:=congrArg List.length hfl
  rw [List.length_map] at this
  rw [this]; rfl
 ·rw [mQ,WS]; rfl
 ·obtain ⟨hd,ks⟩:=nd
  simp only [Br.pb,Pb.mk.injEq] at WS
  exact WS.1
 ·obtain ⟨k,ns,hin,j,hj,ho⟩:=ho 0 1 rfl
  simp only [b8,lu,nH,List.append_nil,List.nil_append,List.cons_append,List.mem_cons,Prod.mk.injEq,List.not_mem_nil,or_false] at hin
  rw [mP] at ho
  rcases hin with ⟨rfl,rfl⟩ | ⟨rfl,rfl⟩ | ⟨rfl,rfl⟩ | ⟨rfl,rfl⟩ | ⟨rfl,rfl⟩ | ⟨rfl,rfl⟩ <;> rcases j with _ | _ | j <;> first | (exfalso; simp at hj; done) | exact ho
 ·obtain ⟨k,ns,hin,j,hj,ho⟩:=ho 1 3 rfl
  simp only [b8,lu,nH,List.append_nil,List.nil_append,List.cons_append,List.mem_cons,Prod.mk.injEq,List.not_mem_nil,or_false] at hin
  rw [mP] at ho
  rcases hin with ⟨rfl,rfl⟩ | ⟨rfl,rfl⟩ | ⟨rfl,rfl⟩ | ⟨rfl,rfl⟩ | ⟨rfl,rfl⟩ | ⟨rfl,rfl⟩ <;> rcases j with _ | _ | j <;> first | (exfalso; simp at hj; done) | exact ho
 ·obtain ⟨k,ns,hin,j,hj,ho⟩:=ho 2 5 rfl
  simp only [b8,lu,nH,List.append_nil,List.nil_append,List.cons_append,List.mem_cons,Prod.mk.injEq,List.not_mem_nil,or_false] at hin
  rw [mP] at ho
  rcases hin with ⟨rfl,rfl⟩ | ⟨rfl,rfl⟩ | ⟨rfl,rfl⟩ | ⟨rfl,rfl⟩ | ⟨rfl,rfl⟩ | ⟨rfl,rfl⟩ <;> rcases j with _ | _ | j <;> first | (exfalso; simp at hj; done) | exact ho
 ·obtain ⟨k,ns,hin,j,hj,ho⟩:=ho 3 6 rfl
  simp only [b8,lu,nH,List.append_nil,List.nil_append,List.cons_append,List.mem_cons,Prod.mk.injEq,List.not_mem_nil,or_false] at hin
  rw [mP] at ho
  rcases hin with ⟨rfl,rfl⟩ | ⟨rfl,rfl⟩ | ⟨rfl,rfl⟩ | ⟨rfl,rfl⟩ | ⟨rfl,rfl⟩ | ⟨rfl,rfl⟩ <;> rcases j with _ | _ | j <;> first | (exfalso; simp at hj; done) | exact ho
end Go.Proofs.YtmpmfamiegpmgaaGreatDoor
