/-
  The chapter's example of layer 8, its tokens and its branch.; The chapter's example of layer 8: its node and its occurrences.
-/
import Derived.Test.YtmpmfamiegpmgaaGreatDoorFY
namespace Go.Proofs.YtmpmfamiegpmgaaGreatDoor
open Go.RowKit
set_option maxRecDepth 20000
set_option linter.unusedVariables false
set_option linter.unusedSimpArgs false

theorem e8_0:tokN [118,97,108,32,120,32,61,32,77,46,121,32,43,32,49]=(10,3):=(by kernel_rfl:tokN [118,97,108,32,120,32,61,32,77,46,121,32,43,32,49]=(plainN [118,97,108],3)).trans (by rw [plain_of (by decide) k_118_97_108 rfl])
theorem e8_1:tokN [32,120,32,61,32,77,46,121,32,43,32,49]=(1,1):=by kernel_rfl
theorem e8_2:tokN [120,32,61,32,77,46,121,32,43,32,49]=(6,1):=(by kernel_rfl:tokN [120,32,61,32,77,46,121,32,43,32,49]=(plainN [120],1)).trans (by rw [plain_of (by decide) k_120 rfl])
theorem e8_3:tokN [32,61,32,77,46,121,32,43,32,49]=(1,1):=by kernel_rfl
theorem e8_4:tokN [61,32,77,46,121,32,43,32,49]=(11,1):=(by kernel_rfl:tokN [61,32,77,46,121,32,43,32,49]=(plainN [61],1)).trans (by rw [plain_of (by decide) k_61 rfl])
theorem e8_5:tokN [32,77,46,121,32,43,32,49]=(1,1):=by kernel_rfl
theorem e8_6:tokN [77,46,121,32,43,32,49]=(7,1):=(by kernel_rfl:tokN [77,46,121,32,43,32,49]=(plainN [77],1)).trans (by rw [plain_of (by decide) k_77 rfl])
theorem e8_7:tokN [46,121,32,43,32,49]=(11,1):=(by kernel_rfl:tokN [46,121,32,43,32,49]=(plainN [46],1)).trans (by rw [plain_of (by decide) k_46 rfl])
theorem e8_8:tokN [121,32,43,32,49]=(6,1):=(by kernel_rfl:tokN [121,32,43,32,49]=(plainN [121],1)).trans (by rw [plain_of (by decide) k_121 rfl])
theorem e8_9:tokN [32,43,32,49]=(1,1):=by kernel_rfl
theorem e8_10:tokN [43,32,49]=(9,1):=(by kernel_rfl:tokN [43,32,49]=(plainN [43],1)).trans (by rw [plain_of (by decide) k_43 rfl])
theorem e8_11:tokN [32,49]=(1,1):=by kernel_rfl
theorem e8_12:tokN [49]=(4,1):=by kernel_rfl
theorem e8_scan:scanT ⟨#[118,97,108,32,120,32,61,32,77,46,121,32,43,32,49]⟩=[⟨10,0,3⟩,⟨1,3,4⟩,⟨6,4,5⟩,⟨1,5,6⟩,⟨11,6,7⟩,⟨1,7,8⟩,⟨7,8,9⟩,⟨11,9,10⟩,⟨6,10,11⟩,⟨1,11,12⟩,⟨9,12,13⟩,⟨1,13,14⟩,⟨4,14,15⟩,⟨0,15,15⟩]:=by
 show scanF 15 0 [118,97,108,32,120,32,61,32,77,46,121,32,43,32,49]++[⟨0,15,15⟩]=_
 simp [scanF,e8_0,e8_1,e8_2,e8_3,e8_4,e8_5,e8_6,e8_7,e8_8,e8_9,e8_10,e8_11,e8_12]
theorem e8_words:wordsT ⟨#[118,97,108,32,120,32,61,32,77,46,121,32,43,32,49]⟩=[⟨10,0,3⟩,⟨6,4,5⟩,⟨11,6,7⟩,⟨7,8,9⟩,⟨11,9,10⟩,⟨6,10,11⟩,⟨9,12,13⟩,⟨4,14,15⟩,⟨0,15,15⟩]:=by
 unfold wordsT; rw [e8_scan]; rfl
theorem e8_first:(firstN ⟨#[118,97,108,32,120,32,61,32,77,46,121,32,43,32,49]⟩).2=0:=by
 unfold firstN; rw [e8_scan]; decide
theorem e8_out (S:Src) (h1:S.s=⟨#[118,97,108,32,120,32,61,32,77,46,121,32,43,32,49]⟩) (h2:S.ts=wordsT ⟨#[118,97,108,32,120,32,61,32,77,46,121,32,43,32,49]⟩):wholeO S (fileS S)=.ok (.mk 1 0 0 8 [] [(.mk 3 0 0 8 [] [(.mk 39 0 1 2 [1] []),(.mk 37 0 3 8 [6] [(.mk 28 0 3 6 [3,5] []),(.mk 26 0 7 8 [] [])])])]) 8:=by
 rw [e8_words] at h2
 obtain ⟨s,ts,g,gw,cw⟩:=S
 simp only at h1 h2
 subst h1 h2
 kernel_rfl
end Go.Proofs.YtmpmfamiegpmgaaGreatDoor

namespace Go.Proofs.YtmpmfamiegpmgaaGreatDoor
open Go.RowKit
set_option maxRecDepth 20000
set_option linter.unusedVariables false
set_option linter.unusedSimpArgs false

abbrev s8:ByteArray:=⟨#[118,97,108,32,120,32,61,32,77,46,121,32,43,32,49]⟩
abbrev b8:Pb:=(.mk 1 0 0 8 [] [(.mk 3 0 0 8 [] [(.mk 39 0 1 2 [1] []),(.mk 37 0 3 8 [6] [(.mk 28 0 3 6 [3,5] []),(.mk 26 0 7 8 [] [])])])])
abbrev n8:Pb:=(.mk 1 0 0 15 [] [(.mk 3 0 0 15 [] [(.mk 39 0 4 5 [0] []),(.mk 37 0 8 15 [3] [(.mk 28 0 8 11 [1,2] []),(.mk 26 0 14 15 [] [])])])])
mutual
/-- The parts of a plain branch, each ahead of its kids: kind and names. -/
def flatQ:Pb→List (Int × List Int)
 | .mk k _ _ _ ns ks=>(k,ns) :: flatQs ks
def flatQs:List Pb→List (Int × List Int)
 | []=>[]
 | b :: r=>flatQ b++flatQs r
end
theorem flatQs_map (ks:List Br) (ih:∀ k ∈ ks,k.flatB.map (fun z=>(z.h.k,z.h.ns))=flatQ k.pb):(flatsB ks).map (fun z=>(z.h.k,z.h.ns))=flatQs (ks.map Br.pb):=by
 induction ks with
 | nil=>rfl
 | cons x r ihr =>
  simp only [flatsB,List.map_append,List.map_cons,flatQs]
  rw [ih x (by simp),ihr fun k hk=>ih k (by simp [hk])]
theorem flatQ_pb (y:Br):y.flatB.map (fun z=>(z.h.k,z.h.ns))=flatQ y.pb:=by
 induction y using Br.ind with
 | hP h ks ih =>
  rw [flatB_eq]
  simp only [Br.pb,pbs_map,flatQ,List.map_cons]
  rw [show (Br.mk h ks).ks=ks from rfl,flatQs_map ks ih]
  rfl
mutual
def lowQ (L:List Tok) (first:Int) (ts:List Int):Pb→Pb
 | .mk k m f t ns ks=>.mk k m (spanP L f.toNat t.toNat).1 (spanP L f.toNat t.toNat).2 (ns.map (numT first ts)) (lowQs L first ts ks)
def lowQs (L:List Tok) (first:Int) (ts:List Int):List Pb→List Pb
 | []=>[]
 | b :: r=>lowQ L first ts b :: lowQs L first ts r
end
theorem lowQs_map (L:List Tok) (first:Int) (ts:List Int) (ks:List Pb):lowQs L first ts ks=ks.map (lowQ L first ts):=by
 induction ks with
 | nil=>rfl
 | cons x r ih=>simp only [lowQs,List.map_cons,ih]
theorem lowQ_pb (L:List Tok) (first:Int) (ts:List Int) (y:Br):lowP L first ts y=lowQ L first ts y.pb:=by
 induction y using Br.ind with
 | hP h ks ih =>
  simp only [lowP,Br.pb,pbs_map,lowQ,lowPs_map,lowQs_map,List.map_map]
  congr 1
  exact List.map_congr_left fun k hk=>ih k hk
theorem rises_same {a b:List Int} (ha:Rises a) (hb:Rises b) (h:∀ x,x ∈ a ↔ x ∈ b):a=b:=by
 have na:a.Nodup:=ha.imp fun h=>by omega
 have nb:b.Nodup:=hb.imp fun h=>by omega
 have hp:a.Perm b:=(List.perm_ext_iff_of_nodup na nb).2 h
 exact hp.eq_of_pairwise (fun x y _ _ h1 h2=>by omega) ha hb
theorem nmsB_flat (y:Br):nmsB y.flatB=(flatQ y.pb).flatMap (·.2):=by
 rw [← flatQ_pb,nmsB,List.flatMap_map]
theorem e8_at {y0:Br} {n:Nat} {v:Value} {oa m:Nat} {ts:List Int} {W:World} (h:FileAt s8 0 0 y0 n v oa m ts W) :
  ∃ nd:Br,v=nd.h.val∧nd.Lies W∧nd.flatB.length=6∧nmsB nd.flatB=[0,3,1,2]∧nd.h.k=1∧m=4∧oa < W.heap.size ∧
   OccAt W oa 0 ⟨0,4,5,1,true⟩∧OccAt W oa 5 ⟨0,8,9,4,false⟩∧OccAt W oa 10 ⟨0,10,11,1,false⟩∧OccAt W oa 15 ⟨0,12,13,1,false⟩:=by
 obtain ⟨⟨_,S,h1,h2,hG,h3⟩,⟨nd,rfl,hl,hp⟩,hr,hm,hmem,hoal,hocc⟩:=h
 have hpb:y0.pb=b8:=by
  rw [e8_out S h1 h2] at h3
  injection h3 with h3 _
  exact h3.symm
 have hts:ts=[1,3,5,6]:=by
  refine rises_same hr (by unfold Rises; decide) fun x=>?_
  rw [hmem x,nmsB_flat,hpb]
  simp only [b8,flatQ,flatQs]
  simp
  omega
 subst hts
 rw [lowQ_pb,hpb,e8_words] at hp
 have hp8:nd.pb=n8:=hp.trans (by kernel_rfl)
 have hfl:nd.flatB.map (fun z=>(z.h.k,z.h.ns))=flatQ n8:=by rw [flatQ_pb,hp8]
 have ho:∀ i t,[1,3,5,6][i]?=some t→∃ k ns,(k,ns) ∈ flatQ b8∧∃ j:Nat,ns[j]?=some t∧OccAt W oa (i * 5) (occT (wordsT s8) 0 k ns.length j t):=fun i t hi=>by
  obtain ⟨z,hz,j,hj,ho⟩:=hocc i t hi
  refine ⟨z.h.k,z.h.ns,?_,j,hj,ho⟩
  rw [← hpb,← flatQ_pb]
  exact List.mem_map.2 ⟨z,hz,rfl⟩
 refine ⟨nd,rfl,hl,?_,?_,?_,by simpa using hm.symm,hoal,?_,?_,?_,?_⟩
 ·have:=congrArg List.length hfl
  rw [List.length_map] at this
  rw [this]; rfl
 ·rw [nmsB_flat,hp8]; rfl
 ·obtain ⟨hd,ks⟩:=nd
  simp only [Br.pb,Pb.mk.injEq] at hp8
  exact hp8.1
 ·obtain ⟨k,ns,hin,j,hj,ho⟩:=ho 0 1 rfl
  simp only [b8,flatQ,flatQs,List.append_nil,List.nil_append,List.cons_append,List.mem_cons,Prod.mk.injEq,List.not_mem_nil,or_false] at hin
  rw [e8_words] at ho
  rcases hin with ⟨rfl,rfl⟩ | ⟨rfl,rfl⟩ | ⟨rfl,rfl⟩ | ⟨rfl,rfl⟩ | ⟨rfl,rfl⟩ | ⟨rfl,rfl⟩ <;> rcases j with _ | _ | j <;> first | (exfalso; simp at hj; done) | exact ho
 ·obtain ⟨k,ns,hin,j,hj,ho⟩:=ho 1 3 rfl
  simp only [b8,flatQ,flatQs,List.append_nil,List.nil_append,List.cons_append,List.mem_cons,Prod.mk.injEq,List.not_mem_nil,or_false] at hin
  rw [e8_words] at ho
  rcases hin with ⟨rfl,rfl⟩ | ⟨rfl,rfl⟩ | ⟨rfl,rfl⟩ | ⟨rfl,rfl⟩ | ⟨rfl,rfl⟩ | ⟨rfl,rfl⟩ <;> rcases j with _ | _ | j <;> first | (exfalso; simp at hj; done) | exact ho
 ·obtain ⟨k,ns,hin,j,hj,ho⟩:=ho 2 5 rfl
  simp only [b8,flatQ,flatQs,List.append_nil,List.nil_append,List.cons_append,List.mem_cons,Prod.mk.injEq,List.not_mem_nil,or_false] at hin
  rw [e8_words] at ho
  rcases hin with ⟨rfl,rfl⟩ | ⟨rfl,rfl⟩ | ⟨rfl,rfl⟩ | ⟨rfl,rfl⟩ | ⟨rfl,rfl⟩ | ⟨rfl,rfl⟩ <;> rcases j with _ | _ | j <;> first | (exfalso; simp at hj; done) | exact ho
 ·obtain ⟨k,ns,hin,j,hj,ho⟩:=ho 3 6 rfl
  simp only [b8,flatQ,flatQs,List.append_nil,List.nil_append,List.cons_append,List.mem_cons,Prod.mk.injEq,List.not_mem_nil,or_false] at hin
  rw [e8_words] at ho
  rcases hin with ⟨rfl,rfl⟩ | ⟨rfl,rfl⟩ | ⟨rfl,rfl⟩ | ⟨rfl,rfl⟩ | ⟨rfl,rfl⟩ | ⟨rfl,rfl⟩ <;> rcases j with _ | _ | j <;> first | (exfalso; simp at hj; done) | exact ho
end Go.Proofs.YtmpmfamiegpmgaaGreatDoor
