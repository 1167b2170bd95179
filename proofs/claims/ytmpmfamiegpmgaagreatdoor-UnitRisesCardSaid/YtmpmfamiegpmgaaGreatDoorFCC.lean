/-
  A unit that is being loaded: what stands while its parts are filled in.; unit.Load, out of what is said of one file.
-/
import Derived.Test.YtmpmfamiegpmgaaGreatDoorFCB
import Derived.StillTailTactics
import Derived.Deep.Cut
namespace Go.Proofs.YtmpmfamiegpmgaaGreatDoor
open Go.RowKit
set_option maxRecDepth 20000
set_option linter.unusedVariables false
set_option linter.unusedSimpArgs false

/-- What is known of each part that is there: Good is of no world. -/
structure PtW (K:Nat) (fs:List FileV) (Good:Nat→FileV→Int→PV→Br→Prop) (qs:List PV) (W:World) (i:Nat) (q:PV) (nd:Br):Prop where
 pv:PVAt W q
 oal:K≤q.pc.oa
 file:fs[i]?=some q.pc.f
 first:q.pc.first=(allOs (qs.take i)).length
 hd:q.pc.h=nd.h
 lies:nd.Lies W
 on:nd.On fun b=>K≤b
 good:Good i q.pc.f q.pc.first q nd
/-- A unit that is being filled: the first parts stand. -/
structure LdS (B:World) (gp n:Nat) (fs:List FileV) (Good:Nat→FileV→Int→PV→Br→Prop) (qs:List PV) (nds:List Br) (W:World):Prop where
 gr:B.grownBy W (some gp)
 gl:gp < B.heap.size
 th:W.there gp 0 (n * 10)
 len:nds.length=qs.length
 le:qs.length≤n
 pc:∀ i q,qs[i]?=some q→PCAt W gp (i * 10) q.pc
 pt:∀ i q nd,qs[i]?=some q→nds[i]?=some nd→PtW B.heap.size fs Good qs W i q nd
theorem there_same {W W':World} {b o n:Nat} (h:W.there b o n) (he:W'.heap[b]?=W.heap[b]?):W'.there b o n:=fun j hj=>by
 have:=h j hj
 simp only [World.cell?,World.frozen?] at this ⊢
 rw [he]; exact this
theorem PVAt.grown {W W':World} {q:PV} {gp:Nat} (h:PVAt W q) (hg:W.grownBy W' (some gp)) (hne:q.pc.oa≠gp):PVAt W' q :=
 ⟨h.m,Nat.lt_of_lt_of_le h.lt hg.size,fun j v hj=>(h.at_ j v hj).ext fun r _=>World.cell?_of_block (a:=⟨q.pc.oa,_,none⟩) (hg.block _ h.lt (fun e=>hne (Option.some.inj e)))⟩
section
variable {B W W':World} {gp n:Nat} {fs:List FileV} {Good:Nat→FileV→Int→PV→Br→Prop} {qs:List PV} {nds:List Br}
theorem PtW.grown {K i:Nat} {q:PV} {nd:Br} (h:PtW K fs Good qs W i q nd) (hg:W.grownBy W' (some gp)) (hK:gp < K):PtW K fs Good qs W' i q nd:=by
 have:=h.oal
 exact ⟨h.pv.grown hg (by omega),h.oal,h.file,h.first,h.hd,Br.Lies.kept _ hg.size (fun b hb hlt=>hg.block b hlt (fun e=>by have:=Option.some.inj e; omega)) h.on h.lies,h.on,h.good⟩
theorem LdS.below (h:LdS B gp n fs Good qs nds W) (hb:Below W.heap.size W W'):LdS B gp n fs Good qs nds W':=by
 have hgl:=Nat.lt_of_lt_of_le h.gl h.gr.size
 exact ⟨grown_trans h.gr (grown_below hb _),h.gl,there_same h.th (hb.block gp hgl),h.len,h.le,fun i q hi=>(h.pc i q hi).ext fun j _=>hb.cell (p:=⟨gp,_,none⟩) hgl,fun i q nd hi hj=>(h.pt i q nd hi hj).grown (grown_below hb _) h.gl⟩
theorem LdS.put (h:LdS B gp n fs Good qs nds W) {q:PV} {nd:Br} (hlt:qs.length < n) (hq:PtW B.heap.size fs Good qs W qs.length q nd):LdS B gp n fs Good (qs++[q]) (nds++[nd]) (W.setCells gp (qs.length * 10) q.pc.cells):=by
 have hg:W.grownBy (W.setCells gp (qs.length * 10) q.pc.cells) (some gp):=grown_sets gp _ _ _
 have hth:∀ j,j < 10→(W.cell? ⟨gp,qs.length * 10+j,none⟩).isSome=true:=fun j hj=>by
  have:=(h.th (qs.length * 10+j) (by omega)).1
  rwa [Nat.zero_add] at this
 have hin:=World.cell?_setCells_in gp q.pc.cells (qs.length * 10) W (fun j hj=>hth j hj)
 have hpc:PCAt (W.setCells gp (qs.length * 10) q.pc.cells) gp (qs.length * 10) q.pc :=
  ⟨hin 0 (by show 0 < 10; omega),hin 1 (by show 1 < 10; omega),hin 2 (by show 2 < 10; omega),hin 3 (by show 3 < 10; omega),hin 4 (by show 4 < 10; omega),hin 5 (by show 5 < 10; omega),hin 6 (by show 6 < 10; omega),hin 7 (by show 7 < 10; omega),hin 8 (by show 8 < 10; omega),hin 9 (by show 9 < 10; omega)⟩
 have htk:∀ i,i≤qs.length→(qs++[q]).take i=qs.take i:=fun i hi=>List.take_append_of_le_length hi
 refine ⟨grown_trans h.gr hg,h.gl,?_,by simp [h.len],by simp; omega,fun i p hi=>?_,fun i p nd' hi hj=>?_⟩
 ·intro j hj
  have h0:=h.th j hj
  refine ⟨?_,by rw [World.frozen?_setCells]; exact h0.2⟩
  by_cases hr:qs.length * 10≤0+j∧0+j < qs.length * 10+10
  ·have:=hin (0+j - qs.length * 10) (by show _ < 10; omega)
   rw [show qs.length * 10+(0+j - qs.length * 10)=0+j by omega] at this
   rw [this]; rfl
  ·rw [World.cell?_setCells_out _ _ _ _ _ (fun _ _=>by simp only [PC.cells,List.length_cons,List.length_nil]; omega)]; exact h0.1
 ·by_cases hi2:i < qs.length
  ·rw [List.getElem?_append_left hi2] at hi
   exact (h.pc i p hi).ext fun j _=>World.cell?_setCells_out _ _ _ _ _ (fun _ _=>by simp only [PC.cells,List.length_cons,List.length_nil]; omega)
  ·have hi3:=(List.getElem?_eq_some_iff.1 hi).1
   simp at hi3
   obtain rfl:i=qs.length:=by omega
   simp at hi
   subst hi
   exact hpc
 ·by_cases hi2:i < qs.length
  ·rw [List.getElem?_append_left hi2] at hi
   rw [List.getElem?_append_left (by rw [h.len]; exact hi2)] at hj
   have h1:=(h.pt i p nd' hi hj).grown hg h.gl
   exact { h1 with first:=by rw [htk i (by omega)]; exact h1.first }
  ·have hi3:=(List.getElem?_eq_some_iff.1 hi).1
   simp at hi3
   obtain rfl:i=qs.length:=by omega
   simp at hi
   subst hi
   rw [← h.len] at hj
   simp at hj
   subst hj
   have h1:=hq.grown hg h.gl
   exact { h1 with first:=by rw [htk _ (Nat.le_refl _)]; exact h1.first }
end
end Go.Proofs.YtmpmfamiegpmgaaGreatDoor

namespace Go.Proofs.YtmpmfamiegpmgaaGreatDoor
open Go.RowKit
set_option maxRecDepth 20000
set_option linter.unusedVariables false
set_option linter.unusedSimpArgs false

/-- A unit that is loaded. -/
structure Loaded (K:Nat) (fs:List FileV) (Good:Nat→FileV→Int→PV→Br→Prop) (pu gp:Nat) (qs:List PV) (nds:List Br) (W:World):Prop where
 u:UAt W pu gp (qs.map PV.pc)
 len:qs.length=fs.length
 lenn:nds.length=qs.length
 pl:K≤pu
 gl:K≤gp
 pt:∀ i q nd,qs[i]?=some q→nds[i]?=some nd→PtW K fs Good qs W i q nd
/-- What a call that reads one file ends in. -/
def FileC (Err:ByteArray→Int→Int→Prop) (Good:Nat→FileV→Int→PV→Br→Prop) (i:Nat) (f:FileV) (first:Int) (W:World) (x:Ending) (W':World):Prop :=
 Below W.heap.size W W'∧((∃ a c,c≠0∧Err f.2 a c∧x=.returned (.tuple #[.agg #[.int .i64 0,.int .i64 0,.int .i64 0,.int .i64 0,.slice none 0 0,.slice none 0 0],.slice none 0 0,.int .i64 a,.int .i64 c])) ∨
  ∃ (q:PV) (nd:Br),Good i f first q nd∧q.pc.f=f∧q.pc.first=first∧q.pc.h=nd.h∧nd.Lies W'∧(nd.On fun b=>W.heap.size≤b)∧W.heap.size≤q.pc.oa∧PVAt W' q∧q.os.length≤f.2.size∧x=.returned (.tuple #[nd.h.val,.slice (some ⟨q.pc.oa,0,none⟩) q.pc.m q.pc.m,.int .i64 0,.int .i64 0]))
/-- What Load ends in. -/
def LoadC (fs:List FileV) (t:Nat) (Err:ByteArray→Int→Int→Prop) (Good:Nat→FileV→Int→PV→Br→Prop) (W:World) (x:Ending) (W':World):Prop :=
 Below W.heap.size W W'∧((∃ k f,k≠0∧RefK fs t k f∧x=.returned (.tuple #[.pointer none,.agg #[.int .i64 k,.int .i64 f,.int .i64 0]])) ∨
  (RefK fs t 0 0∧∃ (i:Nat) (f:FileV) (a c:Int),fs[i]?=some f∧c≠0∧Err f.2 a c∧(∃ (qs:List PV) (nds:List Br),qs.length=i∧nds.length=i∧∀ j q nd,qs[j]?=some q→nds[j]?=some nd→∃ g,fs[j]?=some g∧Good j g (allOs (qs.take j)).length q nd)∧x=.returned (.tuple #[.pointer none,.agg #[.int .i64 c,.int .i64 i,.int .i64 a]])) ∨
  (RefK fs t 0 0∧∃ pu gp qs nds,Loaded W.heap.size fs Good pu gp qs nds W'∧x=.returned (.tuple #[.pointer (some ⟨pu,0,none⟩),.agg #[.int .i64 0,.int .i64 0,.int .i64 0]])))
/-- A fault is written into its cells. -/
theorem fault_end {W:World} {b:Nat} (h:W.heap[b]?=some (.cells #[.int .i64 0,.int .i64 0,.int .i64 0] 65)) (v0 v1 v2:Value) :
  W.there b 0 3∧(W.setCells b 0 [v0,v1,v2]).cell? ⟨b,0,none⟩=some v0∧(W.setCells b 0 [v0,v1,v2]).cell? ⟨b,1,none⟩=some v1∧(W.setCells b 0 [v0,v1,v2]).cell? ⟨b,2,none⟩=some v2:=by
 have hth:W.there b 0 3:=fun j hj=>by
  refine ⟨?_,by simp only [World.frozen?]; rw [h]; simp⟩
  rw [Lib.cell_of_heap h,Array.getElem?_eq_getElem (by simpa using hj)]
  rfl
 have hin:=World.cell?_setCells_in b [v0,v1,v2] 0 W (fun j hj=>(hth j hj).1)
 exact ⟨hth,hin 0 (by show 0 < 3; omega),hin 1 (by show 1 < 3; omega),hin 2 (by show 2 < 3; omega)⟩
set_option maxHeartbeats 8000000 in
theorem load_of (Err:ByteArray→Int→Int→Prop) (Good:Nat→FileV→Int→PV→Br→Prop) (fs:List FileV) (t:Nat) (p:Option Addr) (n cap:Nat) (W:World) (hk:Kw W)
  (HF:∀ (i:Nat) (f:FileV) (first:Int) (w:World),fs[i]?=some f→0≤first→first≤1000000→Kw w→Calls Tryz.prog 17 #[.string f.2,.int .i64 i,.int .i64 first] w (FileC Err Good i f first w))
  (hf:FIn W p n cap fs) (hlim:n≤100000) (hsz:sumT fs≤1000000) (hnm:∀ f ∈ fs,f.1.size≤9223372036854775807) (ht:TwiceAt (fs.map (·.1)) t) :
  Calls Tryz.prog 39 #[.slice p n cap] W (LoadC fs t Err Good W):=by
 obtain ⟨W1,hW1⟩:∃ W1,W1=W.alloc (.cells #[.int .i64 0,.int .i64 0,.int .i64 0] 65):=⟨_,rfl⟩
 have hb1:Below W.heap.size W W1:=by rw [hW1]; exact (Below.refl _ _).alloc (Nat.le_refl _) _
 have hz1:W1.heap.size=W.heap.size+1:=by rw [hW1]; simp
 have hf1:FIn W1 p n cap fs:=by
  obtain ⟨h1,h0 | ⟨b,o,h2,h3,h4,h5⟩⟩:=hf
  ·exact ⟨h1,.inl h0⟩
  ·exact ⟨h1,.inr ⟨b,o,h2,h3,by omega,fun i f hi=>⟨(hb1.cell (p:=⟨b,_,none⟩) h4).trans (h5 i f hi).1,(hb1.cell (p:=⟨b,_,none⟩) h4).trans (h5 i f hi).2⟩⟩⟩
 have HR:=Lib.hid (refused_any fs t p n cap W1 hf1 hlim (by omega) hnm ht)
 have hrx:W1.heap[W.heap.size]?=some (.cells #[.int .i64 0,.int .i64 0,.int .i64 0] 65):=by rw [hW1]; exact heap_alloc_new W _
 have HB1:=Lib.hid hb1
 have HRX:=Lib.hid hrx
 have HFF:=Lib.hid HF
 have HFI:=Lib.hid hf
 have HW1:Hid (W.alloc (.cells #[.int .i64 0,.int .i64 0,.int .i64 0] 65)=W1):=Lib.hid hW1.symm
 have HK:=Lib.hid hk
 clear hb1 hrx HF hf hf1 hnm ht hk hW1
 go_enter Tryz.func39,Tryz.ntmps39
 go_wp2_with fail
 rw [HW1.out]
 refine HR.out.mono ?_
 rintro x w2 ⟨k,f,hrk,rfl,hb2⟩
 have hz2:=hb2.size
 have HRK:=Lib.hid hrk
 have HB2:=Lib.hid (HB1.out.trans (hb2.mono (by omega)))
 have hrx2:=(hb2.block W.heap.size (by omega)).trans HRX.out
 have HRX2:=Lib.hid hrx2
 clear hrk hb2 hrx2 HR
 by_cases hk0:k=0
 ·subst hk0
  obtain rfl:f=0:=by rcases HRK.out with ⟨_,h,_⟩ | ⟨_,_,h,_⟩ | ⟨_,_,_,h⟩ <;> omega
  obtain ⟨i132,hi132,hy0,hy1,hy2⟩:∃ i,Tryz.prog.info? 132=some i∧i.zero=some (.agg #[.string ⟨#[]⟩,.string ⟨#[]⟩,.int .i64 0,.int .i64 0,.int .i64 0,.int .i64 0,.slice none 0 0,.slice none 0 0,.int .i64 0,.slice none 0 0])∧i.size=10∧i.bytes=144:=by
   refine ⟨_,rfl,?_,?_,?_⟩ <;> kernel_rfl
  obtain ⟨W3,hW3⟩:∃ W3,W3=w2.alloc (.cells #[.int .i64 0,.int .i64 0,.int .i64 0] 65):=⟨_,rfl⟩
  have hb3:Below W.heap.size W W3:=by rw [hW3]; exact HB2.out.alloc (by omega) _
  have hz3:W.heap.size < W3.heap.size:=by rw [hW3]; simp; omega
  have hrx3:W3.heap[W.heap.size]?=some (.cells #[.int .i64 0,.int .i64 0,.int .i64 0] 65):=by rw [hW3,heap_alloc_old _ _ (by omega)]; exact HRX2.out
  have HB3:=Lib.hid hb3
  have HRX3:=Lib.hid hrx3
  have HW3:=Lib.hid hW3
  clear hb3 hrx3 hW3
  go_upto_region 4 with (fail)
  rw [← HW3.out]
  go_wp2_with (first
   | (at_make; refine wpList_make_full _ rfl _ _ 128 rfl W3.heap.size 132 i132 _ 10 Tryz.underlying128 hi132 hy0 hy1 _ _ _ _ n rfl rfl rfl rfl (by rw [hy2]; omega) (by unfold maxLen; omega) (Nat.le_refl _) ?_; intro w4 hrow4 hg4)
   | go_in)
  have hz4:=hg4.size
  have hgp4:W3.heap.size < w4.heap.size:=(World.ownsRow.lt hrow4 _ rfl).2
  have hb4:Below W.heap.size W w4:=HB3.out.grown hg4 (by omega) (fun j hj=>by cases hj)
  have hth4:w4.there W3.heap.size 0 (n * 10):=fun j hj=>by
   obtain ⟨hl,⟨h0,_⟩ | ⟨g',c',cur,hv,hb,hh,hle,hm,hs,ht⟩⟩:=hrow4
   ·cases h0
   ·simp only [Value.slice.injEq,Option.some.injEq,Addr.mk.injEq,and_true,true_and] at hv
    obtain ⟨rfl,rfl⟩:=hv
    refine ⟨?_,by simp [World.frozen?,hh]⟩
    rw [Lib.cell_of_heap hh,Nat.zero_add,Array.getElem?_eq_getElem (by omega)]; rfl
  have hrx4:w4.heap[W.heap.size]?=some (.cells #[.int .i64 0,.int .i64 0,.int .i64 0] 65):=(hg4.block _ hz3 (by simp)).trans HRX3.out
  obtain ⟨W5,hW5⟩:∃ W5,W5=w4.alloc (.cells #[.slice (some ⟨W3.heap.size,0,none⟩) n n] 130):=⟨_,rfl⟩
  obtain ⟨gp,hgp⟩:∃ gp,gp=W3.heap.size:=⟨_,rfl⟩
  obtain ⟨pu,hpu⟩:∃ pu,pu=w4.heap.size:=⟨_,rfl⟩
  have hpc:W5.cell? ⟨pu,0,none⟩=some (.slice (some ⟨gp,0,none⟩) n n):=by rw [hW5,hpu,hgp,Lib.cell_of_heap (heap_alloc_new w4 _)]; rfl
  have hb45:Below w4.heap.size w4 W5:=by rw [hW5]; exact (Below.refl _ _).alloc (Nat.le_refl _) _
  have hz5:pu < W5.heap.size:=by rw [hW5,hpu]; simp
  have hb5:Below W.heap.size W W5:=hb4.trans (hb45.mono (by omega))
  have hrx5:=(hb45.block W.heap.size (by omega)).trans hrx4
  have hth5:W5.there gp 0 (n * 10):=by rw [hgp]; exact there_same hth4 (hb45.block _ hgp4)
  have hne:pu≠gp:=by omega
  have hgpw:W.heap.size < gp:=by omega
  have hgp5:gp < W5.heap.size:=by have:=hb45.size; omega
  have HPC:=Lib.hid hpc
  have HB5:=Lib.hid hb5
  have HRX5:=Lib.hid hrx5
  have HTH5:=Lib.hid hth5
  have HN:Hid (n=fs.length):=Lib.hid HFI.out.1
  have HW5:=Lib.hid hW5
  have HRES:Hid (∀ wr:World,W5.grownBy wr (some gp)→Below W.heap.size W wr∧wr.heap[W.heap.size]?=some (.cells #[.int .i64 0,.int .i64 0,.int .i64 0] 65)∧wr.cell? ⟨pu,0,none⟩=some (.slice (some ⟨gp,0,none⟩) n n)):=Lib.hid fun wr hg =>
   ⟨HB5.out.grown hg HB5.out.size (fun j hj=>by have:=Option.some.inj hj; omega),(hg.block _ (by omega) (fun e=>by have:=Option.some.inj e; omega)).trans HRX5.out,(World.cell?_of_block (a:=⟨pu,0,none⟩) (hg.block pu hz5 (fun e=>hne (Option.some.inj e)))).trans HPC.out⟩
  have e5:w4.alloc (.cells #[.slice (some ⟨gp,0,none⟩) n n] 130)=W5:=by rw [hW5,hgp]
  rw [← hgp,← hpu,e5]
  have HGP:Hid (W.heap.size < pu∧pu < W5.heap.size):=Lib.hid ⟨by omega,hz5⟩
  clear e5 hrow4 hg4 hb4 hth4 hrx4 hW5 hpc hb45 hb5 hrx5 hth5 hgp hpu hy0 hi132 hy1 hy2
  go_loopw [6,26] (fun v i wr=>∃ (k:Nat) (qs:List PV) (nds:List Br),k≤n∧i=.int .i64 k∧v=.int .i64 ((allOs qs).length:Int)∧Hid (qs.length=k)∧Hid ((allOs qs).length≤sumT (fs.take k))∧Hid (LdS W5 gp n fs Good qs nds wr)) (fun _ i _=>n - (intOf i).toNat)
  case atStart=>exact ⟨0,[],[],by omega,rfl,rfl,Lib.hid rfl,Lib.hid (by simp [allOs]),Lib.hid ⟨grown_same _ _,hgp5,HTH5.out,rfl,by simp,fun i q h=>by simp at h,fun i q nd h=>by simp at h⟩⟩
  case round =>
   obtain ⟨k,qs,nds,hk,rfl,rfl,HQ,HS,HL⟩:=hrel
   have hst:=sumT_le fs k
   have hsl:=HS.out
   have hgr:=HL.out.gr
   have hgz:=hgr.size
   obtain ⟨hbw,hrr,hpp⟩:=HRES.out wr hgr
   have HRR:=Lib.hid hrr
   by_cases hlt:k < n
   ·have hkl:k < fs.length:=by have:=HN.out; omega
    obtain ⟨f,hfk⟩:∃ f,fs[k]?=some f:=⟨_,List.getElem?_eq_getElem hkl⟩
    obtain ⟨hnn,h0 | ⟨b,o,rfl,hcn,hbl,hat⟩⟩:=HFI.out
    ·omega
    clear hnn
    obtain ⟨q0,q1⟩:=hat k f hfk
    have p0:=(hbw.cell (p:=⟨b,o+k * 2,none⟩) hbl).trans q0
    have p1:=(hbw.cell (p:=⟨b,o+k * 2+1,none⟩) hbl).trans q1
    obtain ⟨WB,hWB⟩:∃ WB,WB=wr.alloc (.cells #[.string f.1,.string f.2] 76):=⟨_,rfl⟩
    have hbb:Below wr.heap.size wr WB:=by rw [hWB]; exact (Below.refl _ _).alloc (Nat.le_refl _) _
    have hwz:W.heap.size≤wr.heap.size:=hbw.size
    have hbz:wr.heap.size < WB.heap.size:=by rw [hWB]; simp
    have hbc:∀ j:Nat,WB.cell? ⟨wr.heap.size,j,none⟩=(#[.string f.1,.string f.2]:Array Value)[j]?:=fun j=>by rw [hWB]; exact Lib.cell_of_heap (heap_alloc_new wr _) j
    have b0:WB.cell? ⟨wr.heap.size,0,none⟩=some (.string f.1):=hbc 0
    have b1:WB.cell? ⟨wr.heap.size,1,none⟩=some (.string f.2):=hbc 1
    have hbWB:Below W.heap.size W WB:=hbw.trans (hbb.mono hwz)
    have HFC:=Lib.hid (HFF.out k f ((allOs qs).length:Int) WB hfk (by omega) (by omega) (HK.out.step hbWB))
    have HBB:=Lib.hid hbb
    have HBWB:=Lib.hid hbWB
    have HB0:=Lib.hid b0
    have HB1':=Lib.hid b1
    have HFK:=Lib.hid hfk
    have HWB:=Lib.hid hWB
    have hN9:(allOs qs).length≤1000000:=by omega
    obtain ⟨N0,hN0⟩:∃ N0,N0=(allOs qs).length:=⟨_,rfl⟩
    rw [← hN0] at HFC hN9 ⊢
    have HN0:=Lib.hid hN0
    obtain ⟨nm,tx⟩:=f
    simp only at HFC HB0 HB1' b0 b1 p0 p1 HWB
    clear hN0 q0 q1 hat hfk hWB hbb hbWB hbc hsl hbw hgr hrr hkl
    go_upto_region 9 with (fail)
    rw [← HWB.out]
    go_wp2_with fail
    refine HFC.out.mono ?_
    rintro x w6 ⟨hb6,hcase⟩
    have HB6:=Lib.hid hb6
    have hz6:=hb6.size
    clear hb6 HFC p0 p1
    rcases hcase with ⟨a,c,hc0,herr,rfl⟩ | ⟨q,nd,hgood,hqf,hq1,hqh,hnl,hno,hqo,hqv,hql,rfl⟩
    ·have hc1:(c != 0)=true:=by simpa using hc0
     have HC0:=Lib.hid hc0
     have HERR:=Lib.hid herr
     clear hc0 herr
     obtain ⟨W7,hW7⟩:∃ W7,W7=w6.alloc (.cells #[.int .i64 0,.int .i64 0,.int .i64 0,.int .i64 0,.slice none 0 0,.slice none 0 0] 26):=⟨_,rfl⟩
     have hb7:Below WB.heap.size WB W7:=by rw [hW7]; exact HB6.out.alloc hz6 _
     have hrx7:W7.heap[W.heap.size]?=some (.cells #[.int .i64 0,.int .i64 0,.int .i64 0] 65):=by
      rw [hb7.block _ (by omega),HBB.out.block _ (by omega)]; exact HRR.out
     obtain ⟨e1,e2,e3,e4⟩:=fault_end hrx7 (.int .i64 c) (.int .i64 k) (.int .i64 a)
     have hbW7:Below W.heap.size W W7:=HBWB.out.trans (hb7.mono (by omega))
     have HBX:Hid (Below W.heap.size W (W7.setCells W.heap.size 0 [.int .i64 c,.int .i64 k,.int .i64 a])):=Lib.hid (hbW7.grown (grown_sets W.heap.size _ 0 _) hbW7.size (fun j hj=>by have:=Option.some.inj hj; omega))
     obtain ⟨WX,hWX⟩:∃ WX,WX=W7.setCells W.heap.size 0 [.int .i64 c,.int .i64 k,.int .i64 a]:=⟨_,rfl⟩
     rw [← hWX] at HBX e2 e3 e4
     have HWX:=Lib.hid hWX
     have HW7:=Lib.hid hW7
     obtain ⟨i0,hi0,hy0⟩:∃ i0,Tryz.prog.info? 65=some i0∧i0.size=3:=by refine ⟨_,rfl,?_⟩; kernel_rfl
     have hi65:(Tryz.prog.info? 65).map (·.size)=some 3:=by rw [hi0]; simp [hy0]
     have HI65:=Lib.hid hi65
     have HTH:=Lib.hid e1
     clear hb7 hrx7 hbW7 hWX hW7 e1 hi65 hi0 hy0
     go_upto_region 10 with (fail)
     rw [← HW7.out]
     go_wp2_with (first
      | (refine wpList_store_mid rfl 65 (.tmp 3) (.tmp 46) rfl W.heap.size 0 #[.int .i64 c,.int .i64 k,.int .i64 a] rfl rfl HTH.out HI65.out (by simp [Value.oneCell']) ?_; show wpList _ _ _ _ _ (W7.setCells W.heap.size 0 [.int .i64 c,.int .i64 k,.int .i64 a]); rw [← HWX.out])
      | go_in)
     refine bodyPost_ret (v:=.tuple #[.pointer none,.agg #[.int .i64 c,.int .i64 k,.int .i64 a]]) (by simp [results,Tryz.results39,go_sem,e2,e3,e4,Result.andThen]; try rfl) rfl ?_
     refine ⟨HBX.out,.inr (.inl ⟨HRK.out,k,(nm,tx),a,c,HFK.out,HC0.out,HERR.out,⟨qs,nds,HQ.out,by rw [HL.out.len]; exact HQ.out,fun j q nd hj hj2=>?_⟩,rfl⟩)⟩
     have hp:=HL.out.pt j q nd hj hj2
     exact ⟨_,hp.file,by have:=hp.good; rw [hp.first] at this; exact this⟩
    ·obtain ⟨⟨hk0,hm0,hf0,ht0,np,nn,nc,ns,kp,kn,kc⟩,hhd⟩:∃ h,h=nd.h:=⟨_,rfl⟩
     obtain ⟨⟨⟨qn,qt⟩,qh,qfirst,oa,m⟩,os⟩:=q
     simp only at hqf hq1 hqh hqo hqv hql
     obtain ⟨rfl,rfl⟩:=Prod.mk.inj hqf
     rw [← hhd] at hqh ⊢
     subst hqh
     subst hq1
     obtain ⟨W7,hW7⟩:∃ W7,W7=w6.alloc (.cells #[.int .i64 hk0,.int .i64 hm0,.int .i64 hf0,.int .i64 ht0,.slice np nn nc,.slice kp kn kc] 26):=⟨_,rfl⟩
     have hb67:Below w6.heap.size w6 W7:=by rw [hW7]; exact (Below.refl _ _).alloc (Nat.le_refl _) _
     have hb7:Below WB.heap.size WB W7:=HB6.out.trans (hb67.mono hz6)
     have hnc:=Lib.cell_of_heap (heap_alloc_new w6 (.cells #[.int .i64 hk0,.int .i64 hm0,.int .i64 hf0,.int .i64 ht0,.slice np nn nc,.slice kp kn kc] 26))
     rw [← hW7] at hnc
     have n0:W7.cell? ⟨w6.heap.size,0,none⟩=some (.int .i64 hk0):=hnc 0
     have n1:W7.cell? ⟨w6.heap.size,1,none⟩=some (.int .i64 hm0):=hnc 1
     have n2:W7.cell? ⟨w6.heap.size,2,none⟩=some (.int .i64 hf0):=hnc 2
     have n3:W7.cell? ⟨w6.heap.size,3,none⟩=some (.int .i64 ht0):=hnc 3
     have n4:W7.cell? ⟨w6.heap.size,4,none⟩=some (.slice np nn nc):=hnc 4
     have n5:W7.cell? ⟨w6.heap.size,5,none⟩=some (.slice kp kn kc):=hnc 5
     have f0:W7.cell? ⟨wr.heap.size,0,none⟩=some (.string qn):=(hb7.cell (p:=⟨wr.heap.size,0,none⟩) hbz).trans HB0.out
     have f1:W7.cell? ⟨wr.heap.size,1,none⟩=some (.string qt):=(hb7.cell (p:=⟨wr.heap.size,1,none⟩) hbz).trans HB1'.out
     have hL7:=(HL.out.below HBB.out).below hb7
     have hL8:LdS W5 gp n fs Good qs nds W7.drew:=hL7.below ((Below.refl _ _).drew)
     have u0:=(HRES.out W7 hL7.gr).2.2
     have hq8:PtW W5.heap.size fs Good qs W7.drew qs.length ⟨⟨(qn,qt),⟨hk0,hm0,hf0,ht0,np,nn,nc,ns,kp,kn,kc⟩,(N0:Int),oa,m⟩,os⟩ nd:=by
      have h1:=hqv.step hb67
      have h2:=h1.step ((Below.refl _ W7).drew)
      refine ⟨h2,by show W5.heap.size≤oa; omega,by rw [HQ.out]; exact HFK.out,?_,hhd,(hnl.step _ hb67).step _ ((Below.refl _ W7).drew),Br.On.mono (fun b hb=>by omega) _ hno,?_⟩
      ·rw [List.take_length,← HN0.out]
      ·rw [HQ.out]; exact hgood
     have hL9:=hL8.put (by rw [HQ.out]; exact hlt) hq8
     rw [HQ.out] at hL9
     have hth:W7.drew.there gp (k * 10) 10:=fun j hj=>by
      have:=hL8.th (k * 10+j) (by omega)
      rwa [Nat.zero_add] at this
     obtain ⟨WX,hWX⟩:∃ WX,WX=W7.drew.setCells gp (k * 10) [.string qn,.string qt,.int .i64 hk0,.int .i64 hm0,.int .i64 hf0,.int .i64 ht0,.slice np nn nc,.slice kp kn kc,.int .i64 (N0:Int),.slice (some ⟨oa,0,none⟩) m m]:=⟨_,rfl⟩
     have hL10:LdS W5 gp n fs Good (qs++[⟨⟨(qn,qt),⟨hk0,hm0,hf0,ht0,np,nn,nc,ns,kp,kn,kc⟩,(N0:Int),oa,m⟩,os⟩]) (nds++[nd]) WX:=by rw [hWX]; exact hL9
     have HL10:=Lib.hid hL10
     have hmo:m=os.length:=hqv.m
     have HMO:=Lib.hid hmo
     have hm9:m≤1000000:=by have:=sumT_le fs (k+1); have:=sumT_take fs k _ HFK.out; simp only at this; omega
     have HSUM:Hid (N0+m≤sumT (fs.take (k+1))):=Lib.hid (by have:=sumT_take fs k _ HFK.out; have h3:=HS.out; rw [← HN0.out] at h3; simp only at this; omega)
     have HTH:=Lib.hid hth
     have HWX:=Lib.hid hWX
     have HW7:=Lib.hid hW7
     obtain ⟨i0,hi0,hy0⟩:∃ i0,Tryz.prog.info? 132=some i0∧i0.size=10:=by refine ⟨_,rfl,?_⟩; kernel_rfl
     have hi132:(Tryz.prog.info? 132).map (·.size)=some 10:=by rw [hi0]; simp [hy0]
     have HI132:=Lib.hid hi132
     have r1:(0:Int)≤(k:Int):=by omega
     have r2:(k:Int) < (n:Int):=by omega
     clear hgood hqf hhd hnl hno hqo hqv hql hW7 hb67 hb7 hnc hL7 hL8 hq8 hL9 hth hWX hL10 hmo hi0 hy0 hi132 HFF
     go_upto_region 10 with (fail)
     rw [← HW7.out]
     go_upto_region 12 with (fail)
     go_still_tail 11,(by kernel_rfl)
     change wpList _ _ _ _ _ W7.drew
     refine wpList_store_mid rfl 132 (.tmp 57) (.tmp 56) rfl gp (k * 10) #[.string qn,.string qt,.int .i64 hk0,.int .i64 hm0,.int .i64 hf0,.int .i64 ht0,.slice np nn nc,.slice kp kn kc,.int .i64 (N0:Int),.slice (some ⟨oa,0,none⟩) m m] rfl rfl HTH.out HI132.out (by simp [Value.oneCell']) ?_
     show wpList _ _ _ _ _ (W7.drew.setCells gp (k * 10) [.string qn,.string qt,.int .i64 hk0,.int .i64 hm0,.int .i64 hf0,.int .i64 ht0,.slice np nn nc,.slice kp kn kc,.int .i64 (N0:Int),.slice (some ⟨oa,0,none⟩) m m])
     rw [← HWX.out]
     go_wp2_with fail
     go_roundw
     case rel =>
      refine ⟨k+1,_,_,by omega,by go_num,?_,Lib.hid ?_,Lib.hid ?_,HL10⟩
      ·rw [allOs_snoc,List.length_append,← HN0.out,← HMO.out]; go_num
      ·rw [List.length_append,HQ.out]; rfl
      ·rw [allOs_snoc,List.length_append,← HN0.out,← HMO.out]; exact HSUM.out
     case measure=>simp [intOf]; omega
   ·have hkn:k=n:=by omega
    obtain ⟨e1,e2,e3,e4⟩:=fault_end hrr (.int .i64 0) (.int .i64 0) (.int .i64 0)
    have hg2:wr.grownBy (wr.setCells W.heap.size 0 [.int .i64 0,.int .i64 0,.int .i64 0]) (some W.heap.size):=grown_sets W.heap.size _ 0 _
    have HBX:Hid (Below W.heap.size W (wr.setCells W.heap.size 0 [.int .i64 0,.int .i64 0,.int .i64 0])):=Lib.hid (hbw.grown hg2 hbw.size (fun j hj=>by have:=Option.some.inj hj; omega))
    have hwz:W.heap.size≤wr.heap.size:=hbw.size
    have HLD:Hid (Loaded W.heap.size fs Good pu gp qs nds (wr.setCells W.heap.size 0 [.int .i64 0,.int .i64 0,.int .i64 0])):=Lib.hid (by
     have hl:=HL.out
     have hql:qs.length=n:=by rw [HQ.out,hkn]
     have hgl:gp < wr.heap.size:=by omega
     have hpu:=HGP.out
     have hc:∀ b j,b≠W.heap.size→b < wr.heap.size→(wr.setCells W.heap.size 0 [.int .i64 0,.int .i64 0,.int .i64 0]).cell? ⟨b,j,none⟩=wr.cell? ⟨b,j,none⟩:=fun b j hb hl=>World.cell?_of_block (a:=⟨b,j,none⟩) (hg2.block b hl (fun e=>hb (Option.some.inj e)))
     refine ⟨⟨?_,by have:=hg2.size; omega,by have:=hg2.size; omega,fun i p hi=>?_⟩,by rw [hql]; exact HN.out,hl.len,by have:=HGP.out; omega,by omega,fun i q nd hi hj=>?_⟩
     ·rw [hc _ _ (by omega) (by omega),List.length_map,hql]; exact hpp
     ·obtain ⟨q,hq,rfl⟩:∃ q,qs[i]?=some q∧q.pc=p:=by simpa using hi
      exact (hl.pc i q hq).ext fun j _=>hc _ _ (by omega) hgl
     ·have h1:=(hl.pt i q nd hi hj).grown hg2 (by omega)
      exact { h1 with oal:=by have:=h1.oal; omega,on:=Br.On.mono (fun b hb=>by omega) _ h1.on })
    have HTH:=Lib.hid e1
    obtain ⟨WX,hWX⟩:∃ WX,WX=wr.setCells W.heap.size 0 [.int .i64 0,.int .i64 0,.int .i64 0]:=⟨_,rfl⟩
    rw [← hWX] at HBX e2 e3 e4 HLD
    have HWX:=Lib.hid hWX
    obtain ⟨i0,hi0,hy0⟩:∃ i0,Tryz.prog.info? 65=some i0∧i0.size=3:=by refine ⟨_,rfl,?_⟩; kernel_rfl
    have hi65:(Tryz.prog.info? 65).map (·.size)=some 3:=by rw [hi0]; simp [hy0]
    have HI65:=Lib.hid hi65
    subst hkn
    clear hWX e1 hi65 hi0 hy0 hg2 hbw hgr hrr
    go_wp2_with (first
     | (refine wpList_store_mid rfl 65 (.tmp 3) (.tmp 64) rfl W.heap.size 0 #[.int .i64 0,.int .i64 0,.int .i64 0] rfl rfl HTH.out HI65.out (by simp [Value.oneCell']) ?_; show wpList _ _ _ _ _ (wr.setCells W.heap.size 0 [.int .i64 0,.int .i64 0,.int .i64 0]); rw [← HWX.out])
     | go_in)
    refine bodyPost_ret (v:=.tuple #[.pointer (some ⟨pu,0,none⟩),.agg #[.int .i64 0,.int .i64 0,.int .i64 0]]) (by simp [results,Tryz.results39,go_sem,e2,e3,e4,Result.andThen]; try rfl) rfl ?_
    exact ⟨HBX.out,.inr (.inr ⟨HRK.out,pu,gp,qs,nds,HLD.out,rfl⟩)⟩
 ·have hk1:(k != 0)=true:=by simpa using hk0
  have HK0:=Lib.hid hk0
  obtain ⟨W3,hW3⟩:∃ W3,W3=w2.alloc (.cells #[.int .i64 k,.int .i64 f,.int .i64 0] 65):=⟨_,rfl⟩
  have hc:=Lib.cell_of_heap (heap_alloc_new w2 (.cells #[.int .i64 k,.int .i64 f,.int .i64 0] 65))
  rw [← hW3] at hc
  have c0:W3.cell? ⟨w2.heap.size,0,none⟩=some (.int .i64 k):=hc 0
  have c1:W3.cell? ⟨w2.heap.size,1,none⟩=some (.int .i64 f):=hc 1
  have c2:W3.cell? ⟨w2.heap.size,2,none⟩=some (.int .i64 0):=hc 2
  have hb3:Below W.heap.size W W3:=by rw [hW3]; exact HB2.out.alloc (by omega) _
  have hrx3:W3.heap[W.heap.size]?=some (.cells #[.int .i64 0,.int .i64 0,.int .i64 0] 65):=by rw [hW3,heap_alloc_old _ _ (by omega)]; exact HRX2.out
  have HE:=Lib.hid (fun v0 v1 v2=>fault_end (W:=W3.drew) (b:=W.heap.size) hrx3 v0 v1 v2)
  have HB3:=Lib.hid hb3
  have HW3:=Lib.hid hW3
  obtain ⟨i0,hi0,hy0⟩:∃ i0,Tryz.prog.info? 65=some i0∧i0.size=3:=by refine ⟨_,rfl,?_⟩; kernel_rfl
  have hi65:(Tryz.prog.info? 65).map (·.size)=some 3:=by rw [hi0]; simp [hy0]
  have HI65:=Lib.hid hi65
  clear hk0 hc hb3 hrx3 hW3 hi65 hi0 hy0
  go_upto_region 3 with (fail)
  rw [← HW3.out]
  go_still_tail 2,(by kernel_rfl)
  change wpList _ _ _ _ _ W3.drew
  obtain ⟨e1,e2,e3,e4⟩:=HE.out (.int .i64 k) (.int .i64 f) (.int .i64 0)
  have HBX:Hid (Below W.heap.size W (W3.drew.setCells W.heap.size 0 [.int .i64 k,.int .i64 f,.int .i64 0])):=Lib.hid ((HB3.out.drew).grown (grown_sets W.heap.size _ 0 _) (by have:=HB3.out.size; exact this) (fun j hj=>by have:=Option.some.inj hj; omega))
  obtain ⟨WX,hWX⟩:∃ WX,WX=W3.drew.setCells W.heap.size 0 [.int .i64 k,.int .i64 f,.int .i64 0]:=⟨_,rfl⟩
  rw [← hWX] at HBX e2 e3 e4
  have HWX:=Lib.hid hWX
  refine wpList_store_mid rfl 65 (.tmp 3) (.tmp 18) rfl W.heap.size 0 #[.int .i64 k,.int .i64 f,.int .i64 0] rfl rfl e1 HI65.out (by simp [Value.oneCell']) ?_
  show wpList _ _ _ _ _ (W3.drew.setCells W.heap.size 0 [.int .i64 k,.int .i64 f,.int .i64 0])
  rw [← hWX]
  clear hWX e1 HE
  go_wp2_with fail
  refine bodyPost_ret (v:=.tuple #[.pointer none,.agg #[.int .i64 k,.int .i64 f,.int .i64 0]]) (by simp [results,Tryz.results39,go_sem,e2,e3,e4,Result.andThen]; try rfl) rfl ?_
  exact ⟨HBX.out,.inl ⟨k,f,HK0.out,HRK.out,rfl⟩⟩
end Go.Proofs.YtmpmfamiegpmgaaGreatDoor
