/-
  What Load finds in each file, by ast.File.; The example of layer 10: its two files, their tokens, branches and occurrences.; The document's Texts: of two rows of the same texts it tells true.; The example of layer 10.; Looks at a unit that is none.
-/
import Derived.Test.YtmpmfamiegpmgaaGreatDoorFCC
import Derived.Test.YtmpmfamiegpmgaaGreatDoorFAA
import Derived.Test.YtmpmfamiegpmgaaGreatDoorFZ
import Derived.Test.YtmpmfamiegpmgaaGreatDoorFA
import Derived.Test.YtmpmfamiegpmgaaGreatDoorFCB
import Derived.Test.YtmpmfamiegpmgaaGreatDoorFCA
namespace Go.Proofs.YtmpmfamiegpmgaaGreatDoor
open Go.RowKit
set_option maxRecDepth 20000
set_option linter.unusedVariables false
set_option linter.unusedSimpArgs false

theorem OccAt.inj {W:World} {b o:Nat} {u v:OccV} (h:OccAt W b o u) (k:OccAt W b o v):u=v:=by
 obtain ⟨a0,a1,a2,a3,a4⟩:=h
 obtain ⟨b0,b1,b2,b3,b4⟩:=k
 rw [a0] at b0; rw [a1] at b1; rw [a2] at b2; rw [a3] at b3; rw [a4] at b4
 cases u; cases v
 simp only [Option.some.injEq,Value.int.injEq,true_and,Value.bool.injEq] at *
 simp [b0,b1,b2,b3,b4]
/-- Where a file's node and occurrences come from. -/
structure PFact (s:ByteArray) (file first:Int) (q:PV) (nd:Br) (y0:Br) (n:Nat) (ts:List Int):Prop where
 ok:FileOk s y0.pb n
 pb:nd.pb=lowP (wordsT s) first ts y0
 rise:Rises ts
 len:ts.length=q.os.length
 mem:∀ x:Int,x ∈ ts ↔ x ∈ nmsB y0.flatB
 occ:∀ (i:Nat) (t:Int),ts[i]?=some t→∃ z ∈ y0.flatB,∃ j:Nat,z.h.ns[j]?=some t∧q.os[i]?=some (occT (wordsT s) file z.h.k z.h.ns.length j t)
/-- What a file's occurrences are like. -/
structure OsF (s:ByteArray) (file:Int) (os:List OccV):Prop where
 file:∀ v ∈ os,v.file=file
 rng:∀ v ∈ os,0≤v.at_∧v.at_ < v.end_∧v.end_≤(s.size:Int)
 may:∀ v ∈ os,mayB v.sp (s.extract v.at_.toNat v.end_.toNat)=true
 rise:∀ (i:Nat) (u v:OccV),os[i]?=some u→os[i+1]?=some v→u.end_≤v.at_
theorem OsF.ge {s:ByteArray} {file:Int} {os:List OccV} (h:OsF s file os):∀ (i:Nat) (v:OccV),os[i]?=some v→(i:Int)≤v.at_:=by
 intro i
 induction i with
 | zero=>intro v hv; exact (h.rng v (List.mem_of_getElem? hv)).1
 | succ i ih =>
  intro v hv
  have hlt:=(List.getElem?_eq_some_iff.1 hv).1
  obtain ⟨u,hu⟩:∃ u,os[i]?=some u:=⟨_,List.getElem?_eq_getElem (by omega)⟩
  have h1:=ih u hu
  have h2:=h.rng u (List.mem_of_getElem? hu)
  have h3:=h.rise i u v hu hv
  omega
theorem OsF.len {s:ByteArray} {file:Int} {os:List OccV} (h:OsF s file os):os.length≤s.size:=by
 rcases Nat.eq_zero_or_pos os.length with h0 | h0
 ·omega
 ·obtain ⟨v,hv⟩:∃ v,os[os.length - 1]?=some v:=⟨_,List.getElem?_eq_getElem (by omega)⟩
  have h1:=h.ge _ v hv
  have h2:=h.rng v (List.mem_of_getElem? hv)
  omega
theorem OsF.lt {s:ByteArray} {file:Int} {os:List OccV} (h:OsF s file os):∀ (k i:Nat) (u v:OccV),os[i]?=some u→os[i+1+k]?=some v→u.end_≤v.at_:=by
 intro k
 induction k with
 | zero=>intro i u v hu hv; exact h.rise i u v hu hv
 | succ k ih =>
  intro i u v hu hv
  have hlt:=(List.getElem?_eq_some_iff.1 hv).1
  obtain ⟨x,hx⟩:∃ x,os[i+1+k]?=some x:=⟨_,List.getElem?_eq_getElem (by omega)⟩
  have h1:=ih i u x hu hx
  have h2:=h.rng x (List.mem_of_getElem? hx)
  have h3:=h.rise (i+1+k) x v hx (by rw [show i+1+k+1=i+1+(k+1) by omega]; exact hv)
  omega
/-- What is known of a file that is read. -/
def GoodF (i:Nat) (f:FileV) (first:Int) (q:PV) (nd:Br):Prop:=(∃ y0 n ts,PFact f.2 i first q nd y0 n ts)∧OsF f.2 i q.os
theorem file_c (i:Nat) (f:FileV) (hs:f.2.size≤5000) (first:Int) (w:World) (h0:0≤first) (h1:first≤1000000) (hk:Kw w) :
  Calls Tryz.prog 17 #[.string f.2,.int .i64 i,.int .i64 first] w (FileC FileErr GoodF i f first w):=by
 refine (astFile_on f.2 (by omega) i first (WalkArith.wf_i64 (by omega)) w hk).mono ?_
 rintro x W ⟨hb,⟨a,c,hc,he,rfl⟩ | ⟨y0,n,v,oa,m,ts,hfa,⟨nd,rfl,hl,hp,hon⟩,hoa,rfl⟩⟩
 ·exact ⟨hb,.inl ⟨a,c,hc,he,rfl⟩⟩
 ·obtain ⟨nd2,_,hof⟩:=once_of f.2 hs i first h0 h1 hfa
  obtain ⟨ov,hov,hri⟩:=hof.occ
  have hget:∀ j,j < m→((List.range m).map ov)[j]?=some (ov j):=fun j hj=>by simp [hj]
  have hosf:OsF f.2 i ((List.range m).map ov):=by
   refine ⟨fun v hv=>?_,fun v hv=>?_,fun v hv=>?_,fun j u v hu hv=>?_⟩
   ·obtain ⟨j,hj,rfl⟩:=List.mem_map.1 hv
    exact (hov j (List.mem_range.1 hj)).2.1
   ·obtain ⟨j,hj,rfl⟩:=List.mem_map.1 hv
    obtain ⟨_,_,q1,q2,q3,_⟩:=hov j (List.mem_range.1 hj)
    exact ⟨q1,q2,q3⟩
   ·obtain ⟨j,hj,rfl⟩:=List.mem_map.1 hv
    exact (hov j (List.mem_range.1 hj)).2.2.2.2.2
   ·have hjl:=(List.getElem?_eq_some_iff.1 hv).1
    simp at hjl
    rw [hget j (by omega)] at hu
    rw [hget (j+1) hjl] at hv
    rw [← Option.some.inj hu,← Option.some.inj hv]
    exact hri j hjl
  have hpf:PFact f.2 i first ⟨⟨f,nd.h,first,oa,m⟩,(List.range m).map ov⟩ nd y0 n ts:=by
   refine ⟨hfa.ok,hp,hfa.rise,by simpa using hfa.len,hfa.mem,fun j t hj=>?_⟩
   obtain ⟨z,hz,k,hk2,ho⟩:=hfa.occ j t hj
   have hjm:j < m:=by rw [← hfa.len]; exact (List.getElem?_eq_some_iff.1 hj).1
   refine ⟨z,hz,k,hk2,?_⟩
   show ((List.range m).map ov)[j]?=_
   rw [hget j hjm]
   exact congrArg some ((hov j hjm).1.inj ho)
  have hpv:PVAt W ⟨⟨f,nd.h,first,oa,m⟩,(List.range m).map ov⟩:=by
   refine ⟨by simp,hof.oal,fun j v hj=>?_⟩
   have hjm:=(List.getElem?_eq_some_iff.1 hj).1
   simp at hjm
   have hj2:((List.range m).map ov)[j]?=some v:=hj
   rw [hget j hjm] at hj2
   rw [← Option.some.inj hj2]
   exact (hov j hjm).1
  exact ⟨hb,.inr ⟨⟨⟨f,nd.h,first,oa,m⟩,(List.range m).map ov⟩,nd,⟨⟨y0,n,ts,hpf⟩,hosf⟩,rfl,rfl,rfl,hl,hon,hoa,hpv,hosf.len,rfl⟩⟩
/-- Load, of files of few bytes. -/
theorem load_any (fs:List FileV) (t:Nat) (p:Option Addr) (n cap:Nat) (W:World) (hk:Kw W) (hf:FIn W p n cap fs) (hlim:n≤100000) (hsz:sumT fs≤1000000) (hs:∀ f ∈ fs,f.2.size≤5000) (hnm:∀ f ∈ fs,f.1.size≤9223372036854775807) (ht:TwiceAt (fs.map (·.1)) t) :
  Calls Tryz.prog 39 #[.slice p n cap] W (LoadC fs t FileErr GoodF W) :=
 load_of FileErr GoodF fs t p n cap W hk (fun i f first w hi h0 h1 hkw=>file_c i f (hs f (List.mem_of_getElem? hi)) first w h0 h1 hkw) hf hlim hsz hnm ht
end Go.Proofs.YtmpmfamiegpmgaaGreatDoor

namespace Go.Proofs.YtmpmfamiegpmgaaGreatDoor
open Go.RowKit
set_option maxRecDepth 20000
set_option linter.unusedVariables false
set_option linter.unusedSimpArgs false

theorem ea_0:tokN [118,97,108,32,120,32,61,32,49]=(10,3):=(by kernel_rfl:tokN [118,97,108,32,120,32,61,32,49]=(plainN [118,97,108],3)).trans (by rw [plain_of (by decide) k_118_97_108 rfl])
theorem ea_1:tokN [32,120,32,61,32,49]=(1,1):=by kernel_rfl
theorem ea_2:tokN [120,32,61,32,49]=(6,1):=(by kernel_rfl:tokN [120,32,61,32,49]=(plainN [120],1)).trans (by rw [plain_of (by decide) k_120 rfl])
theorem ea_3:tokN [32,61,32,49]=(1,1):=by kernel_rfl
theorem ea_4:tokN [61,32,49]=(11,1):=(by kernel_rfl:tokN [61,32,49]=(plainN [61],1)).trans (by rw [plain_of (by decide) k_61 rfl])
theorem ea_5:tokN [32,49]=(1,1):=by kernel_rfl
theorem ea_6:tokN [49]=(4,1):=by kernel_rfl
abbrev ea_s:ByteArray:=⟨#[118,97,108,32,120,32,61,32,49]⟩
theorem ea_scan:scanT ea_s=[⟨10,0,3⟩,⟨1,3,4⟩,⟨6,4,5⟩,⟨1,5,6⟩,⟨11,6,7⟩,⟨1,7,8⟩,⟨4,8,9⟩,⟨0,9,9⟩]:=by
 show scanF 9 0 [118,97,108,32,120,32,61,32,49]++[⟨0,9,9⟩]=_
 simp [scanF,ea_0,ea_1,ea_2,ea_3,ea_4,ea_5,ea_6]
theorem ea_words:wordsT ea_s=[⟨10,0,3⟩,⟨6,4,5⟩,⟨11,6,7⟩,⟨4,8,9⟩,⟨0,9,9⟩]:=by
 unfold wordsT; rw [ea_scan]; rfl
theorem ea_first:(firstN ea_s).2=0:=by
 unfold firstN; rw [ea_scan]; decide
abbrev ea_b:Pb:=(.mk 1 0 0 4 [] [(.mk 3 0 0 4 [] [(.mk 39 0 1 2 [1] []),(.mk 26 0 3 4 [] [])])])
theorem ea_out (S:Src) (h1:S.s=ea_s) (h2:S.ts=wordsT ea_s):wholeO S (fileS S)=.ok ea_b 4:=by
 rw [ea_words] at h2
 obtain ⟨s,ts,g,gw,cw⟩:=S
 simp only at h1 h2
 subst h1 h2
 kernel_rfl
theorem ea_err {a c:Int} (hc:c≠0) (he:FileErr ea_s a c):False:=by
 rcases he with ⟨h1,_⟩ | ⟨_,S,h1,h2,_,⟨n,h3,_⟩ | ⟨n,h3,_⟩⟩
 ·exact h1 ea_first
 ·rw [ea_out S h1 h2] at h3; cases h3
 ·rw [ea_out S h1 h2] at h3; cases h3
theorem ea_os {file first:Int} {q:PV} {nd y0:Br} {n:Nat} {ts:List Int} (h:PFact ea_s file first q nd y0 n ts):q.os=[⟨file,4,5,1,true⟩]:=by
 obtain ⟨_,S,h1,h2,hG,h3⟩:=h.ok
 have hpb:y0.pb=ea_b:=by
  rw [ea_out S h1 h2] at h3
  injection h3 with h3 _
  exact h3.symm
 obtain ⟨_,_,hr,hm,hmem,hocc⟩:=h
 have hts:ts=[1]:=by
  refine rises_same hr (by unfold Rises; decide) fun x=>?_
  rw [hmem x,nmsB_flat,hpb]
  simp only [ea_b,flatQ,flatQs]
  simp
  try omega
 subst hts
 have ho:∀ (i:Nat) (t:Int),([1]:List Int)[i]?=some t→∃ k ns,(k,ns) ∈ flatQ ea_b∧∃ j:Nat,ns[j]?=some t∧q.os[i]?=some (occT (wordsT ea_s) file k ns.length j t):=fun i t hi=>by
  obtain ⟨z,hz,j,hj,ho⟩:=hocc i t hi
  refine ⟨z.h.k,z.h.ns,?_,j,hj,ho⟩
  rw [← hpb,← flatQ_pb]
  exact List.mem_map.2 ⟨z,hz,rfl⟩
 have g0:q.os[0]?=some ⟨file,4,5,1,true⟩:=by
  obtain ⟨k,ns,hin,j,hj,ho⟩:=ho 0 1 rfl
  simp only [ea_b,flatQ,flatQs,List.append_nil,List.nil_append,List.cons_append,List.mem_cons,Prod.mk.injEq,List.not_mem_nil,or_false] at hin
  rw [ea_words] at ho
  rcases hin with ⟨rfl,rfl⟩ | ⟨rfl,rfl⟩ | ⟨rfl,rfl⟩ | ⟨rfl,rfl⟩ <;> rcases j with _ | _ | j <;> first | (exfalso; simp at hj; done) | exact ho
 have hl:q.os.length=1:=by rw [← hm]; rfl
 refine List.ext_getElem? fun i=>?_
 rcases Nat.lt_or_ge i 1 with hi | hi
 ·match i,hi with
  | 0,_=>exact g0
 ·rw [List.getElem?_eq_none (by omega),List.getElem?_eq_none (by simpa using hi)]
theorem eb_0:tokN [118,97,108,32,121,32,61,32,120]=(10,3):=(by kernel_rfl:tokN [118,97,108,32,121,32,61,32,120]=(plainN [118,97,108],3)).trans (by rw [plain_of (by decide) k_118_97_108 rfl])
theorem eb_1:tokN [32,121,32,61,32,120]=(1,1):=by kernel_rfl
theorem eb_2:tokN [121,32,61,32,120]=(6,1):=(by kernel_rfl:tokN [121,32,61,32,120]=(plainN [121],1)).trans (by rw [plain_of (by decide) k_121 rfl])
theorem eb_3:tokN [32,61,32,120]=(1,1):=by kernel_rfl
theorem eb_4:tokN [61,32,120]=(11,1):=(by kernel_rfl:tokN [61,32,120]=(plainN [61],1)).trans (by rw [plain_of (by decide) k_61 rfl])
theorem eb_5:tokN [32,120]=(1,1):=by kernel_rfl
theorem eb_6:tokN [120]=(6,1):=(by kernel_rfl:tokN [120]=(plainN [120],1)).trans (by rw [plain_of (by decide) k_120 rfl])
abbrev eb_s:ByteArray:=⟨#[118,97,108,32,121,32,61,32,120]⟩
theorem eb_scan:scanT eb_s=[⟨10,0,3⟩,⟨1,3,4⟩,⟨6,4,5⟩,⟨1,5,6⟩,⟨11,6,7⟩,⟨1,7,8⟩,⟨6,8,9⟩,⟨0,9,9⟩]:=by
 show scanF 9 0 [118,97,108,32,121,32,61,32,120]++[⟨0,9,9⟩]=_
 simp [scanF,eb_0,eb_1,eb_2,eb_3,eb_4,eb_5,eb_6]
theorem eb_words:wordsT eb_s=[⟨10,0,3⟩,⟨6,4,5⟩,⟨11,6,7⟩,⟨6,8,9⟩,⟨0,9,9⟩]:=by
 unfold wordsT; rw [eb_scan]; rfl
theorem eb_first:(firstN eb_s).2=0:=by
 unfold firstN; rw [eb_scan]; decide
abbrev eb_b:Pb:=(.mk 1 0 0 4 [] [(.mk 3 0 0 4 [] [(.mk 39 0 1 2 [1] []),(.mk 28 0 3 4 [3] [])])])
theorem eb_out (S:Src) (h1:S.s=eb_s) (h2:S.ts=wordsT eb_s):wholeO S (fileS S)=.ok eb_b 4:=by
 rw [eb_words] at h2
 obtain ⟨s,ts,g,gw,cw⟩:=S
 simp only at h1 h2
 subst h1 h2
 kernel_rfl
theorem eb_err {a c:Int} (hc:c≠0) (he:FileErr eb_s a c):False:=by
 rcases he with ⟨h1,_⟩ | ⟨_,S,h1,h2,_,⟨n,h3,_⟩ | ⟨n,h3,_⟩⟩
 ·exact h1 eb_first
 ·rw [eb_out S h1 h2] at h3; cases h3
 ·rw [eb_out S h1 h2] at h3; cases h3
theorem eb_os {file first:Int} {q:PV} {nd y0:Br} {n:Nat} {ts:List Int} (h:PFact eb_s file first q nd y0 n ts):q.os=[⟨file,4,5,1,true⟩,⟨file,8,9,1,false⟩]:=by
 obtain ⟨_,S,h1,h2,hG,h3⟩:=h.ok
 have hpb:y0.pb=eb_b:=by
  rw [eb_out S h1 h2] at h3
  injection h3 with h3 _
  exact h3.symm
 obtain ⟨_,_,hr,hm,hmem,hocc⟩:=h
 have hts:ts=[1,3]:=by
  refine rises_same hr (by unfold Rises; decide) fun x=>?_
  rw [hmem x,nmsB_flat,hpb]
  simp only [eb_b,flatQ,flatQs]
  simp
  try omega
 subst hts
 have ho:∀ (i:Nat) (t:Int),([1,3]:List Int)[i]?=some t→∃ k ns,(k,ns) ∈ flatQ eb_b∧∃ j:Nat,ns[j]?=some t∧q.os[i]?=some (occT (wordsT eb_s) file k ns.length j t):=fun i t hi=>by
  obtain ⟨z,hz,j,hj,ho⟩:=hocc i t hi
  refine ⟨z.h.k,z.h.ns,?_,j,hj,ho⟩
  rw [← hpb,← flatQ_pb]
  exact List.mem_map.2 ⟨z,hz,rfl⟩
 have g0:q.os[0]?=some ⟨file,4,5,1,true⟩:=by
  obtain ⟨k,ns,hin,j,hj,ho⟩:=ho 0 1 rfl
  simp only [eb_b,flatQ,flatQs,List.append_nil,List.nil_append,List.cons_append,List.mem_cons,Prod.mk.injEq,List.not_mem_nil,or_false] at hin
  rw [eb_words] at ho
  rcases hin with ⟨rfl,rfl⟩ | ⟨rfl,rfl⟩ | ⟨rfl,rfl⟩ | ⟨rfl,rfl⟩ <;> rcases j with _ | _ | j <;> first | (exfalso; simp at hj; done) | exact ho
 have g1:q.os[1]?=some ⟨file,8,9,1,false⟩:=by
  obtain ⟨k,ns,hin,j,hj,ho⟩:=ho 1 3 rfl
  simp only [eb_b,flatQ,flatQs,List.append_nil,List.nil_append,List.cons_append,List.mem_cons,Prod.mk.injEq,List.not_mem_nil,or_false] at hin
  rw [eb_words] at ho
  rcases hin with ⟨rfl,rfl⟩ | ⟨rfl,rfl⟩ | ⟨rfl,rfl⟩ | ⟨rfl,rfl⟩ <;> rcases j with _ | _ | j <;> first | (exfalso; simp at hj; done) | exact ho
 have hl:q.os.length=2:=by rw [← hm]; rfl
 refine List.ext_getElem? fun i=>?_
 rcases Nat.lt_or_ge i 2 with hi | hi
 ·match i,hi with
  | 0,_=>exact g0
  | 1,_=>exact g1
 ·rw [List.getElem?_eq_none (by omega),List.getElem?_eq_none (by simpa using hi)]
end Go.Proofs.YtmpmfamiegpmgaaGreatDoor

namespace Go.Proofs.YtmpmfamiegpmgaaGreatDoor
open Go.RowKit
set_option maxRecDepth 20000
set_option linter.unusedVariables false
set_option linter.unusedSimpArgs false

set_option maxHeartbeats 4000000 in
theorem texts34_any (l:List ByteArray) (p q:Option Addr) (n c n' c':Nat) (W:World) (h:In W p n c l) (h':In W q n' c' l) (hm:n≤100000000) :
  Calls Tryz.prog 34 #[.slice p n c,.slice q n' c'] W fun e W'=>e=.returned (.bool true)∧∃ d,W'=W.drewN d:=by
 have hn:=h.1
 obtain rfl:n'=n:=by rw [hn]; exact h'.1
 have HI:=Lib.hid h
 have HI':=Lib.hid h'
 clear h h' hn
 go_enter Tryz.func34,Tryz.ntmps34
 go_wp2_with fail
 go_loopw [5] (fun i wr=>∃ k d:Nat,k≤n'∧i=.int .i64 k∧wr=W.drewN d) (fun i _=>n' - (intOf i).toNat)
 case atStart=>exact ⟨0,0,by omega,rfl,rfl⟩
 case round =>
  obtain ⟨k,d,hk,rfl,rfl⟩:=hrel
  by_cases hlt:k < n'
  ·obtain ⟨hn1,h0 | ⟨b,o,rfl,hc,hb,hat⟩⟩:=HI.out
   ·omega
   obtain ⟨hn2,h0 | ⟨b',o',rfl,hc',hb',hat'⟩⟩:=HI'.out
   ·omega
   have hkl:k < l.length:=by omega
   have c0:=hat k hkl
   have c1:=hat' k hkl
   generalize l[k]=t at c0 c1
   have r1:(0:Int)≤(k:Int):=by omega
   have r2:(k:Int) < (n':Int):=by omega
   have tt:(t.toList != t.toList)=false:=by simp
   clear hn1 hn2 hat hat' hkl
   go_wp2_with fail
   go_quiet (fail)
   go_wp2_with fail
   go_roundw
   case rel=>exact ⟨k+1,_,by omega,by go_num,rfl⟩
   case measure=>simp [intOf]; omega
  ·go_wp2_with fail
   go_ret
   exact ⟨rfl,d,rfl⟩
end Go.Proofs.YtmpmfamiegpmgaaGreatDoor

namespace Go.Proofs.YtmpmfamiegpmgaaGreatDoor
open Go.RowKit
set_option maxRecDepth 20000
set_option linter.unusedVariables false
set_option linter.unusedSimpArgs false

abbrev fsA:List FileV:=[(⟨#[97]⟩,ea_s),(⟨#[98]⟩,eb_s)]
theorem eq65 (w:World):(Op.equalIn 10000 65 (.agg #[.int .i64 0,.int .i64 0,.int .i64 0]) (.agg #[.int .i64 0,.int .i64 0,.int .i64 0])).run Tryz.prog w=.ok true w:=by
 rw [run_equalIn_agg w 9999 65 _ _ (by kernel_rfl) (by kernel_rfl)]
 unfold Program.fieldsOf
 rw [Tryz.underlying65]
 simp [Op.eqFields,go_sem]
theorem twiceA:TwiceAt (fsA.map (·.1)) 2:=by
 refine ⟨by decide,?_,fun h=>by simp at h⟩
 show [(⟨#[97]⟩:ByteArray),⟨#[98]⟩].Nodup
 simp
/-- What the example's unit is. -/
structure ExU (W:World) (pu:Nat) (p0 p1:PV):Prop where
 u:∃ gp,UAt W pu gp ([p0,p1].map PV.pc)
 v0:PVAt W p0
 v1:PVAt W p1
 f0:p0.pc.f.2=ea_s
 f1:p1.pc.f.2=eb_s
 o0:p0.os=[⟨0,4,5,1,true⟩]
 o1:p1.os=[⟨1,4,5,1,true⟩,⟨1,8,9,1,false⟩]
 n1:p1.pc.first=1
theorem exU_of {K pu gp:Nat} {qs:List PV} {nds:List Br} {W:World} (h:Loaded K fsA GoodF pu gp qs nds W):∃ p0 p1,ExU W pu p0 p1:=by
 have hl:qs.length=2:=h.len
 have hln:nds.length=2:=by rw [h.lenn,hl]
 obtain ⟨p0,p1,rfl⟩:∃ p0 p1,qs=[p0,p1]:=by
  match qs,hl with
  | [a,b],_=>exact ⟨a,b,rfl⟩
 obtain ⟨d0,d1,rfl⟩:∃ a b,nds=[a,b]:=by
  match nds,hln with
  | [a,b],_=>exact ⟨a,b,rfl⟩
 have q0:=h.pt 0 p0 d0 rfl rfl
 have q1:=h.pt 1 p1 d1 rfl rfl
 have e0:p0.pc.f=(⟨#[97]⟩,ea_s):=(Option.some.inj q0.file).symm
 have e1:p1.pc.f=(⟨#[98]⟩,eb_s):=(Option.some.inj q1.file).symm
 obtain ⟨⟨y0,n0,t0,g0⟩,_⟩:=q0.good
 obtain ⟨⟨y1,n1,t1,g1⟩,_⟩:=q1.good
 rw [e0] at g0
 rw [e1] at g1
 have s0:=ea_os g0
 have s1:=eb_os g1
 refine ⟨p0,p1,⟨gp,h.u⟩,q0.pv,q1.pv,by rw [e0],by rw [e1],s0,s1,?_⟩
 rw [q1.first]
 show ((allOs [p0]).length:Int)=1
 simp [allOs,s0]
set_option maxHeartbeats 8000000 in
theorem alive10_any (w:World) (hk:Kw w):Calls Tryz.prog 38 #[] w fun e w'=>e=.returned (.bool true)∧Below w.heap.size w w':=by
 obtain ⟨W1,hW1⟩:∃ W1,W1=w.alloc (.cells #[.string ⟨#[97]⟩,.string ea_s,.string ⟨#[98]⟩,.string eb_s] 76):=⟨_,rfl⟩
 have hb1:Below w.heap.size w W1:=by rw [hW1]; exact (Below.refl _ _).alloc (Nat.le_refl _) _
 have hc:=Lib.cell_of_heap (heap_alloc_new w (.cells #[.string ⟨#[97]⟩,.string ea_s,.string ⟨#[98]⟩,.string eb_s] 76))
 rw [← hW1] at hc
 have hz1:w.heap.size < W1.heap.size:=by rw [hW1]; simp
 have hf:FIn W1 (some ⟨w.heap.size,0,none⟩) 2 2 fsA:=⟨rfl,.inr ⟨_,_,rfl,Nat.le_refl _,hz1,fun i f hi=>by
  match i,hi with
  | 0,hi=>obtain rfl:=Option.some.inj hi; exact ⟨hc 0,hc 1⟩
  | 1,hi=>obtain rfl:=Option.some.inj hi; exact ⟨hc 2,hc 3⟩⟩⟩
 have HL:=Lib.hid (load_any fsA 2 (some ⟨w.heap.size,0,none⟩) 2 2 W1 (hk.step hb1) hf (by omega) (by decide) (by decide) (by decide) twiceA)
 have HW1:Hid (w.alloc (.cells #[.string ⟨#[97]⟩,.string ⟨#[118,97,108,32,120,32,61,32,49]⟩,.string ⟨#[98]⟩,.string ⟨#[118,97,108,32,121,32,61,32,120]⟩] 76)=W1):=Lib.hid hW1.symm
 have HB1:=Lib.hid hb1
 clear hc hf hb1 hW1
 have heq:=eq65
 go_enter Tryz.func38,Tryz.ntmps38
 go_wp2_with fail
 rw [HW1.out]
 refine HL.out.mono ?_
 rintro x w2 ⟨hb2,⟨k,f,hk0,hrk,rfl⟩ | ⟨_,i,f,a,c,hi,hc0,herr,_,rfl⟩ | ⟨_,pu,gp,qs,nds,hld,rfl⟩⟩
 ·exfalso
  rcases hrk with ⟨h,_⟩ | ⟨_,h,_⟩ | ⟨_,_,h,_⟩
  ·exact absurd h (by decide)
  ·exact absurd h (by decide)
  ·exact hk0 h
 ·exfalso
  match i,hi with
  | 0,hi=>obtain rfl:=Option.some.inj hi; exact ea_err hc0 herr
  | 1,hi=>obtain rfl:=Option.some.inj hi; exact eb_err hc0 herr
 ·obtain ⟨p0,p1,hx⟩:=exU_of hld
  have hz2:=hb2.size
  obtain ⟨W3,hW3⟩:∃ W3,W3=w2.alloc (.cells #[.int .i64 0,.int .i64 0,.int .i64 0] 65):=⟨_,rfl⟩
  have hb3:Below w2.heap.size w2 W3:=by rw [hW3]; exact (Below.refl _ _).alloc (Nat.le_refl _) _
  have HW3:=Lib.hid hW3
  have hbc:=Lib.cell_of_heap (heap_alloc_new w2 (.cells #[.int .i64 0,.int .i64 0,.int .i64 0] 65))
  rw [← hW3] at hbc
  have HFL:Hid (∀ W,Below W3.heap.size W3 W→W.cell? ⟨w2.heap.size,0,none⟩=some (.int .i64 0)∧W.cell? ⟨w2.heap.size,1,none⟩=some (.int .i64 0)∧W.cell? ⟨w2.heap.size,2,none⟩=some (.int .i64 0)):=Lib.hid fun W hW=>by
   have hl:w2.heap.size < W3.heap.size:=by rw [hW3]; simp
   exact ⟨(hW.cell (p:=⟨w2.heap.size,0,none⟩) hl).trans (hbc 0),(hW.cell (p:=⟨w2.heap.size,1,none⟩) hl).trans (hbc 1),(hW.cell (p:=⟨w2.heap.size,2,none⟩) hl).trans (hbc 2)⟩
  obtain ⟨gp',hu⟩:=hx.u
  have hu3:=hu.step hb3
  have hv0:=hx.v0.step hb3
  have hv1:=hx.v1.step hb3
  have hm1:p1.pc.m=2:=by rw [hv1.m,hx.o1]; rfl
  have HAT:=Lib.hid (at_in W3 pu gp' ([p0,p1].map PV.pc) 1 p1.pc 8 (fun j=>if j=0 then 4 else 8) (fun j=>if j=0 then 5 else 9) 1 hu3 rfl (by omega) (by rw [hx.n1]; omega) hv1.lt (fun j hj=>by
   have hj2:j=0∨j=1:=by omega
   rcases hj2 with rfl | rfl
   ·obtain ⟨_,a1,a2,_⟩:=hv1.at_ 0 ⟨1,4,5,1,true⟩ (by rw [hx.o1]; rfl)
    exact ⟨a1,a2⟩
   ·obtain ⟨_,a1,a2,_⟩:=hv1.at_ 1 ⟨1,8,9,1,false⟩ (by rw [hx.o1]; rfl)
    exact ⟨a1,a2⟩) ⟨by omega,fun i hi=>by obtain rfl:i=0:=(by omega); decide,fun i h1 h2=>by obtain rfl:i=1:=(by omega); decide⟩)
  have HB3:Hid (Below w.heap.size w W3):=Lib.hid (HB1.out.trans ((hb2.trans (hb3.mono hz2)).mono (by omega)))
  have hz3:=HB3.out.size
  have HNM:Hid (∀ W,Below W3.heap.size W3 W→Calls Tryz.prog 50 #[.pointer (some ⟨pu,0,none⟩)] W fun e W'=>∃ v,e=.returned v∧W'.ownsRow W.heap.size 9 1 v 3 ([⟨#[120]⟩,⟨#[121]⟩,⟨#[120]⟩].map Value.string)∧Below W.heap.size W W'):=Lib.hid fun W hW=>by
   have hall:allNm [p0,p1]=[⟨#[120]⟩,⟨#[121]⟩,⟨#[120]⟩]:=by
    simp only [allNm,nmOs,List.flatMap_cons,List.flatMap_nil,hx.o0,hx.o1,hx.f0,hx.f1]
    rfl
   have:=names_any W pu gp' [p0,p1] (hu3.step hW) (fun q hq=>by
    simp at hq
    rcases hq with rfl | rfl
    ·exact hv0.step hW
    ·exact hv1.step hW) (by rw [hall]; decide) (fun q hq=>by
    simp at hq
    rcases hq with rfl | rfl
    ·rw [hx.f0]; decide
    ·rw [hx.f1]; decide) (by simp)
   rw [hall] at this
   exact this
  have hn1:=hx.n1
  have HN1:=Lib.hid hn1
  clear hx hld hu hu3 hv0 hv1 hb2 hb3 hbc hW3 HL
  go_wp2_with fail
  rw [← HW3.out]
  refine HAT.out.mono ?_
  rintro x w4 ⟨⟨r,b,hr,rfl⟩,hb4⟩
  obtain ⟨rfl,rfl⟩:r=2∧b=true:=by
   rcases hr with ⟨_,_,h1,h2⟩ | ⟨h,_⟩
   ·exact ⟨by rw [h1,HN1.out]; rfl,h2⟩
   ·exact absurd ⟨by rw [hm1]; decide,by decide⟩ h
  obtain ⟨c0,c1,c2⟩:=HFL.out w4 hb4
  have HN4:=Lib.hid (HNM.out w4 hb4)
  have HB4:=Lib.hid (HB3.out.trans (hb4.mono hz3))
  clear hr hb4 HAT HNM HFL hn1 hm1
  go_wp2_with fail
  refine HN4.out.mono ?_
  rintro x w5 ⟨v,rfl,hrow,hb5⟩
  obtain ⟨g,cap,rfl,hg1,hg2,hg3,hg4⟩:=own_pos hrow (by omega)
  obtain ⟨W6,hW6⟩:∃ W6,W6=w5.alloc (.cells #[.string ⟨#[120]⟩,.string ⟨#[121]⟩,.string ⟨#[120]⟩] 9):=⟨_,rfl⟩
  have hb6:Below w5.heap.size w5 W6:=by rw [hW6]; exact (Below.refl _ _).alloc (Nat.le_refl _) _
  have h6c:=Lib.cell_of_heap (heap_alloc_new w5 (.cells #[.string ⟨#[120]⟩,.string ⟨#[121]⟩,.string ⟨#[120]⟩] 9))
  rw [← hW6] at h6c
  have hz6:w5.heap.size < W6.heap.size:=by rw [hW6]; simp
  have HTX:=Lib.hid (texts34_any [⟨#[120]⟩,⟨#[121]⟩,⟨#[120]⟩] (some ⟨g,0,none⟩) (some ⟨w5.heap.size,0,none⟩) 3 cap 3 3 W6
   ⟨rfl,.inr ⟨g,0,rfl,hg3,Nat.lt_of_lt_of_le hg2 hb6.size,fun i hi=>by
    rw [Nat.zero_add,hb6.cell (p:=⟨g,i,none⟩) hg2]
    exact own_cell hrow i _ (by rw [List.getElem?_map,List.getElem?_eq_getElem hi]; rfl)⟩⟩
   ⟨rfl,.inr ⟨w5.heap.size,0,rfl,Nat.le_refl _,hz6,fun i hi=>by
    rw [Nat.zero_add]
    match i,hi with
    | 0,_=>exact h6c 0
    | 1,_=>exact h6c 1
    | 2,_=>exact h6c 2⟩⟩ (by omega))
  have HW6:=Lib.hid hW6
  have HB6:Hid (Below w.heap.size w W6):=Lib.hid (HB4.out.trans ((hb5.trans (hb6.mono hb5.size)).mono HB4.out.size))
  clear hrow hb5 hb6 h6c hW6 HN4 c0 c1 c2
  go_wp2_with fail
  rw [← HW6.out]
  refine HTX.out.mono ?_
  rintro x w7 ⟨rfl,d,rfl⟩
  go_wp2_with fail
  go_ret
  exact ⟨rfl,below_drewN HB6.out d⟩
end Go.Proofs.YtmpmfamiegpmgaaGreatDoor

namespace Go.Proofs.YtmpmfamiegpmgaaGreatDoor
open Go.RowKit
set_option maxRecDepth 20000
set_option linter.unusedVariables false
set_option linter.unusedSimpArgs false

set_option maxHeartbeats 2000000 in
theorem opens_nil (W:World):Calls Tryz.prog 44 #[.pointer none] W fun e W'=>e=.returned (.slice none 0 0)∧W=W':=by
 have HA:=Lib.hid (all_nil W)
 go_enter Tryz.func44,Tryz.ntmps44
 go_wp2_with fail
 refine HA.out.mono ?_
 rintro e w1 ⟨rfl,rfl⟩
 go_wp2_with fail
 refine wp_loop_rounds 1 ?_
 rw [rounds_succ]
 go_wp2_with fail
 go_ret
 exact ⟨rfl,rfl⟩
set_option maxHeartbeats 2000000 in
theorem files_nil (W:World):Calls Tryz.prog 46 #[.pointer none] W fun e W'=>e=.returned (.slice none 0 0)∧W=W':=by
 have HA:=Lib.hid (all_nil W)
 go_enter Tryz.func46,Tryz.ntmps46
 go_wp2_with fail
 refine HA.out.mono ?_
 rintro e w1 ⟨rfl,rfl⟩
 go_wp2_with fail
 refine wp_loop_rounds 1 ?_
 rw [rounds_succ]
 go_wp2_with fail
 go_ret
 exact ⟨rfl,rfl⟩
set_option maxHeartbeats 2000000 in
theorem nodes_nil (W:World):Calls Tryz.prog 48 #[.pointer none] W fun e W'=>e=.returned (.slice none 0 0)∧W=W':=by
 have HA:=Lib.hid (all_nil W)
 go_enter Tryz.func48,Tryz.ntmps48
 go_wp2_with fail
 refine HA.out.mono ?_
 rintro e w1 ⟨rfl,rfl⟩
 go_wp2_with fail
 refine wp_loop_rounds 1 ?_
 rw [rounds_succ]
 go_wp2_with fail
 go_ret
 exact ⟨rfl,rfl⟩
set_option maxHeartbeats 2000000 in
theorem occs_nil (W:World):Calls Tryz.prog 49 #[.pointer none] W fun e W'=>e=.returned (.slice none 0 0)∧W=W':=by
 have HA:=Lib.hid (all_nil W)
 go_enter Tryz.func49,Tryz.ntmps49
 go_wp2_with fail
 refine HA.out.mono ?_
 rintro e w1 ⟨rfl,rfl⟩
 go_wp2_with fail
 refine wp_loop_rounds 1 ?_
 rw [rounds_succ]
 go_wp2_with fail
 go_ret
 exact ⟨rfl,rfl⟩
set_option maxHeartbeats 2000000 in
theorem names_nil (W:World):Calls Tryz.prog 50 #[.pointer none] W fun e W'=>e=.returned (.slice none 0 0)∧W=W':=by
 have HA:=Lib.hid (all_nil W)
 go_enter Tryz.func50,Tryz.ntmps50
 go_wp2_with fail
 refine HA.out.mono ?_
 rintro e w1 ⟨rfl,rfl⟩
 go_wp2_with fail
 refine wp_loop_rounds 1 ?_
 rw [rounds_succ]
 go_wp2_with fail
 go_ret
 exact ⟨rfl,rfl⟩
end Go.Proofs.YtmpmfamiegpmgaaGreatDoor
