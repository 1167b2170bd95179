/-
  The document's Few: are files gone through?; What the law UnitRises finds in a unit that is loaded.; An argument that is a slice of files reads as a list of files.
-/
import Derived.Test.YtmpmfamiegpmgaaGreatDoorFCA
import Derived.Test.YtmpmfamiegpmgaaGreatDoorFCD
import Derived.Deep.Slices
import Derived.Deep.SlicePairs
import Derived.ChangeSame
import Derived.ProofKit
import Derived.OpenShut
import Derived.ChangeOld
import Derived.Carry
import Derived.Lib.SmallJoins
namespace Go.Proofs.YtmpmfamiegpmgaaGreatDoor
open Go.RowKit
set_option maxRecDepth 20000
set_option linter.unusedVariables false
set_option linter.unusedSimpArgs false

/-- Bytes of a file, as the law counts them. -/
def capF (f:FileV):Nat:=min f.2.size 5000+min f.1.size 5000
def capT (l:List FileV):Nat:=(l.map capF).sum
theorem capT_take (l:List FileV) (k:Nat) (f:FileV) (h:l[k]?=some f):capT (l.take (k+1))=capT (l.take k)+capF f:=by
 obtain ⟨hk,e⟩:=List.getElem?_eq_some_iff.1 h
 rw [List.take_succ_eq_append_getElem hk]
 simp [capT,e]
theorem capT_bd (l:List FileV):capT l≤l.length * 10000:=by
 induction l with
 | nil=>simp [capT]
 | cons f r ih =>
  have:capF f≤10000:=by unfold capF; omega
  simp only [capT,List.map_cons,List.sum_cons,List.length_cons] at *
  omega
structure FewF (fs:List FileV):Prop where
 len:fs.length≤4
 sum:sumT fs≤1500
 each:∀ f ∈ fs,f.1.size≤1500∧f.2.size≤1500
theorem few_of (fs:List FileV) (h:fs.length≤4) (h2:capT fs≤1500):FewF fs:=by
 have key:∀ l:List FileV,capT l≤1500→sumT l≤capT l∧∀ f ∈ l,f.1.size≤1500∧f.2.size≤1500:=by
  intro l
  induction l with
  | nil=>intro _; exact ⟨by simp [sumT],by simp⟩
  | cons f r ih =>
   intro hl
   simp only [capT,List.map_cons,List.sum_cons] at hl
   have h3:capF f≤1500:=by omega
   have h4:f.1.size≤1500∧f.2.size≤1500:=by unfold capF at h3; omega
   obtain ⟨i1,i2⟩:=ih (by simp only [capT]; omega)
   refine ⟨?_,fun g hg=>?_⟩
   ·simp only [sumT,capT,List.map_cons,List.sum_cons] at *
    have:f.2.size≤capF f:=by unfold capF; omega
    omega
   ·rcases List.mem_cons.1 hg with rfl | hg
    ·exact h4
    ·exact i2 g hg
 exact ⟨h,Nat.le_trans (key fs h2).1 h2,(key fs h2).2⟩
def FewC (fs:List FileV) (W:World) (e:Ending) (W':World):Prop:=∃ b:Bool,e=.returned (.bool b)∧(b=true→FewF fs)∧∃ d,W'=W.drewN d
set_option maxHeartbeats 4000000 in
theorem few37_any (fs:List FileV) (p:Option Addr) (n c:Nat) (W:World) (h:FIn W p n c fs) (hn63:n≤9223372036854775807):Calls Tryz.prog 37 #[.slice p n c] W (FewC fs W):=by
 have HI:=Lib.hid h
 have hn:=h.1
 have HN:=Lib.hid hn
 have HM:=Lib.hid hn63
 clear h hn hn63
 go_enter Tryz.func37,Tryz.ntmps37
 go_wp2_with fail
 go_loopw [3,4] (fun v i wr=>∃ k d:Nat,k≤n∧k≤5∧i=.int .i64 k∧v=.int .i64 (capT (fs.take k):Nat)∧wr=W.drewN d) (fun _ i _=>5 - (intOf i).toNat)
 case atStart=>exact ⟨0,0,by omega,by omega,rfl,by simp [capT],rfl⟩
 case round =>
  obtain ⟨k,d,hk,hk5,rfl,rfl,rfl⟩:=hrel
  have hbd:=capT_bd (fs.take k)
  have hlt0:(fs.take k).length≤5:=by rw [List.length_take]; omega
  by_cases hlt:k < n
  ·by_cases hk4:k≤4
   ·obtain ⟨hn1,h0 | ⟨b,o,rfl,hc,hb,hat⟩⟩:=HI.out
    ·omega
    have hkl:k < fs.length:=by omega
    obtain ⟨f,hf⟩:∃ f,fs[k]?=some f:=⟨_,List.getElem?_eq_getElem hkl⟩
    obtain ⟨q0,q1⟩:=hat k f hf
    have HT:=Lib.hid (capT_take fs k f hf)
    obtain ⟨nm,tx⟩:=f
    simp only at q0 q1
    have r1:(0:Int)≤(k:Int):=by omega
    have r2:(k:Int) < (n:Int):=by omega
    have hC:Hid (capF (nm,tx)=min tx.size 5000+min nm.size 5000):=Lib.hid rfl
    have hbd2:capT (fs.take k)≤50000:=by omega
    generalize capT (fs.take k)=T at *
    clear hn1 hat hf hkl hbd hlt0
    go_wp2_with fail
    go_quiet (fail)
    go_wp2_with fail
    go_roundw
    case rel=>exact ⟨k+1,_,by omega,by omega,by go_num,by rw [HT.out,hC.out]; exact congrArg (Value.int .i64) (by omega),rfl⟩
    case measure=>simp [intOf]; omega
   ·have h5:¬ n≤4:=by omega
    have h6:¬ (k:Int)≤4:=by omega
    go_wp2_with fail
    go_ret
    exact ⟨false,rfl,(fun h=>by cases h),_,rfl⟩
  ·have hkn:k=n:=by omega
   have HTT:Hid (capT (fs.take k)=capT fs):=Lib.hid (by have:=HN.out; rw [hkn,this,List.take_length])
   by_cases h4:n≤4
   ·by_cases ht:capT (fs.take k)≤1500
    ·have HF:Hid (FewF fs):=Lib.hid (few_of fs (by have:=HN.out; omega) (by rw [← HTT.out]; exact ht))
     generalize capT (fs.take k)=T at *
     have ht2:(T:Int)≤1500:=by omega
     subst hkn
     go_wp2_with fail
     go_ret
     exact ⟨true,rfl,fun _=>HF.out,_,rfl⟩
    ·generalize capT (fs.take k)=T at *
     have ht2:¬ (T:Int)≤1500:=by omega
     subst hkn
     go_wp2_with fail
     go_ret
     exact ⟨false,rfl,(fun h=>by cases h),_,rfl⟩
   ·have h6:¬ (n:Int)≤4:=by omega
    subst hkn
    go_wp2_with fail
    go_ret
    exact ⟨false,rfl,(fun h=>by cases h),_,rfl⟩
end Go.Proofs.YtmpmfamiegpmgaaGreatDoor

namespace Go.Proofs.YtmpmfamiegpmgaaGreatDoor
open Go.RowKit
set_option maxRecDepth 20000
set_option linter.unusedVariables false
set_option linter.unusedSimpArgs false

/-- Of each list of names there is a first one that is there already, or none. -/
theorem twice_ex (l:List ByteArray):∃ t,TwiceAt l t:=by
 have key:∀ k,k≤l.length→∃ t,t≤k∧(l.take t).Nodup∧(t < k→∃ x,l[t]?=some x∧x ∈ l.take t):=by
  intro k
  induction k with
  | zero=>intro _; exact ⟨0,Nat.le_refl _,by simp,fun h=>absurd h (Nat.lt_irrefl _)⟩
  | succ k ih =>
   intro hk
   obtain ⟨t,h1,h2,h3⟩:=ih (by omega)
   by_cases ht:t < k
   ·exact ⟨t,by omega,h2,fun _=>h3 ht⟩
   ·obtain rfl:t=k:=by omega
    have hlt:t < l.length:=by omega
    by_cases hm:l[t] ∈ l.take t
    ·exact ⟨t,by omega,h2,fun _=>⟨l[t],List.getElem?_eq_getElem hlt,hm⟩⟩
    ·refine ⟨t+1,Nat.le_refl _,?_,fun h=>absurd h (Nat.lt_irrefl _)⟩
     rw [List.take_succ_eq_append_getElem hlt,List.nodup_append]
     exact ⟨h2,by simp,fun a ha b hb=>by simp at hb; subst hb; exact fun e=>hm (e ▸ ha)⟩
 obtain ⟨t,h1,h2,h3⟩:=key l.length (Nat.le_refl _)
 exact ⟨t,h1,h2,h3⟩
/-- Two occurrences, one behind the other. -/
def Behind (u v:OccV):Prop:=u.file < v.file∨(u.file=v.file∧u.end_≤v.at_)
/-- What a loaded unit's parts are like. -/
structure QsF (fs:List FileV) (qs:List PV):Prop where
 len:qs.length=fs.length
 os:∀ (i:Nat) (q:PV),qs[i]?=some q→OsF q.pc.f.2 i q.os∧fs[i]?=some q.pc.f∧q.pc.first=(allOs (qs.take i)).length
theorem Loaded.qsF {K pu gp:Nat} {fs:List FileV} {qs:List PV} {nds:List Br} {W:World} (h:Loaded K fs GoodF pu gp qs nds W):QsF fs qs:=by
 refine ⟨h.len,fun i q hi=>?_⟩
 have hlt:=(List.getElem?_eq_some_iff.1 hi).1
 obtain ⟨nd,hn⟩:∃ nd,nds[i]?=some nd:=⟨_,List.getElem?_eq_getElem (by rw [h.lenn]; exact hlt)⟩
 have hp:=h.pt i q nd hi hn
 exact ⟨hp.good.2,hp.file,hp.first⟩
theorem QsF.pair {fs:List FileV} {qs:List PV} (h:QsF fs qs):(allOs qs).Pairwise Behind:=by
 unfold allOs
 rw [List.pairwise_flatMap]
 refine ⟨fun q hq=>?_,?_⟩
 ·obtain ⟨i,hi,rfl⟩:=List.getElem_of_mem hq
  obtain ⟨ho,_,_⟩:=h.os i _ (List.getElem?_eq_getElem hi)
  rw [List.pairwise_iff_getElem]
  intro a b ha hb hab
  refine .inr ⟨by rw [ho.file _ (List.getElem_mem ha),ho.file _ (List.getElem_mem hb)],?_⟩
  refine ho.lt (b - (a+1)) a _ _ (List.getElem?_eq_getElem ha) ?_
  rw [show a+1+(b - (a+1))=b by omega]
  exact List.getElem?_eq_getElem hb
 ·rw [List.pairwise_iff_getElem]
  intro a b ha hb hab x hx y hy
  obtain ⟨h1,_,_⟩:=h.os a _ (List.getElem?_eq_getElem ha)
  obtain ⟨h2,_,_⟩:=h.os b _ (List.getElem?_eq_getElem hb)
  refine .inl ?_
  rw [h1.file x hx,h2.file y hy]
  omega
/-- Where an occurrence of all is in its file. -/
theorem allOs_at (qs:List PV):∀ (i:Nat) (v:OccV),(allOs qs)[i]?=some v→∃ k q j,qs[k]?=some q∧q.os[j]?=some v∧i=(allOs (qs.take k)).length+j:=by
 induction qs with
 | nil=>intro i v h; simp [allOs] at h
 | cons q r ih =>
  intro i v h
  have he:allOs (q :: r)=q.os++allOs r:=by simp [allOs]
  rw [he] at h
  by_cases hi:i < q.os.length
  ·rw [List.getElem?_append_left hi] at h
   exact ⟨0,q,i,rfl,h,by simp [allOs]⟩
  ·rw [List.getElem?_append_right (by omega)] at h
   obtain ⟨k,q',j,h1,h2,h3⟩:=ih _ v h
   refine ⟨k+1,q',j,h1,h2,?_⟩
   have:(allOs ((q :: r).take (k+1))).length=q.os.length+(allOs (r.take k)).length:=by simp [allOs]
   omega
/-- A place in an occurrence's bytes leads to it. -/
theorem OsF.first {s:ByteArray} {file:Int} {os:List OccV} (h:OsF s file os) (j:Nat) (v:OccV) (hj:os[j]?=some v) (x:Int) (h1:v.at_≤x) (h2:x < v.end_):FirstGt os.length (fun i=>(os[i]?.map (·.end_)).getD 0) x j:=by
 have hjl:=(List.getElem?_eq_some_iff.1 hj).1
 refine ⟨by omega,fun i hi=>?_,fun i hi him=>?_⟩
 ·obtain ⟨u,hu⟩:∃ u,os[i]?=some u:=⟨_,List.getElem?_eq_getElem (by omega)⟩
  have:=h.lt (j - (i+1)) i u v hu (by rw [show i+1+(j - (i+1))=j by omega]; exact hj)
  simp only [hu,Option.map_some,Option.getD_some]
  omega
 ·obtain ⟨u,hu⟩:∃ u,os[i]?=some u:=⟨_,List.getElem?_eq_getElem him⟩
  simp only [hu,Option.map_some,Option.getD_some]
  rcases Nat.lt_or_ge j i with hlt | hge
  ·have h3:=h.lt (i - (j+1)) j v u hj (by rw [show j+1+(i - (j+1))=i by omega]; exact hu)
   have h4:=h.rng u (List.mem_of_getElem? hu)
   omega
  ·obtain rfl:j=i:=by omega
   rw [hj] at hu
   rw [← Option.some.inj hu]; exact h2
/-- At, in an occurrence's bytes. -/
theorem at_hit {K pu gp:Nat} {fs:List FileV} {qs:List PV} {nds:List Br} {W:World} (h:Loaded K fs GoodF pu gp qs nds W) (hN:(allOs qs).length≤1000000) (i:Nat) (v:OccV) (hi:(allOs qs)[i]?=some v) (x:Int) (h1:v.at_≤x) (h2:x < v.end_) (W':World) (hb:Below W.heap.size W W') :
  Calls Tryz.prog 41 #[.pointer (some ⟨pu,0,none⟩),.int .i64 v.file,.int .i64 x] W' fun y W''=>y=.returned (.tuple #[.int .i64 i,.bool true])∧Below W'.heap.size W' W'':=by
 obtain ⟨k,q,j,hk,hj,rfl⟩:=allOs_at qs i v hi
 have hq:=h.qsF
 obtain ⟨ho,hf,hfi⟩:=hq.os k q hk
 have hkl:=(List.getElem?_eq_some_iff.1 hk).1
 obtain ⟨nd,hn⟩:∃ nd,nds[k]?=some nd:=⟨_,List.getElem?_eq_getElem (by rw [h.lenn]; exact hkl)⟩
 have hpv:=(h.pt k q nd hk hn).pv.step hb
 have hle:=allOs_le qs k
 have hjl:=(List.getElem?_eq_some_iff.1 hj).1
 have htk:=allOs_take qs k q hk
 have hle2:=allOs_le qs (k+1)
 rw [htk,List.length_append] at hle2
 rw [ho.file v (List.mem_of_getElem? hj)]
 refine (at_in W' pu gp (qs.map PV.pc) k q.pc x (fun i=>(q.os[i]?.map (·.at_)).getD 0) (fun i=>(q.os[i]?.map (·.end_)).getD 0) j (h.u.step hb) (by rw [List.getElem?_map,hk]; rfl) (by rw [hpv.m]; omega) (by rw [hfi]; omega) hpv.lt (fun a ha=>?_) (by rw [hpv.m]; exact ho.first j v hj x h1 h2)).mono ?_
 ·rw [hpv.m] at ha
  obtain ⟨u,hu⟩:∃ u,q.os[a]?=some u:=⟨_,List.getElem?_eq_getElem ha⟩
  obtain ⟨_,c1,c2,_⟩:=hpv.at_ a u hu
  simp only [hu,Option.map_some,Option.getD_some]
  exact ⟨c1,c2⟩
 ·rintro y W'' ⟨⟨r,b,hr,rfl⟩,hb2⟩
  rcases hr with ⟨_,_,r1,r2⟩ | ⟨hno,_⟩
  ·refine ⟨?_,hb2⟩
   rw [r1,r2,hfi]
   have:((allOs (qs.take k)).length:Int)+(j:Int)=(((allOs (qs.take k)).length+j:Nat):Int):=by omega
   rw [this]
  ·exact absurd ⟨by rw [hpv.m]; exact hjl,by simp only [hj,Option.map_some,Option.getD_some]; exact h1⟩ hno
theorem QsF.total {fs:List FileV} {qs:List PV} (h:QsF fs qs):(allOs qs).length≤sumT fs:=by
 have key:∀ k,k≤qs.length→(allOs (qs.take k)).length≤sumT (fs.take k):=by
  intro k
  induction k with
  | zero=>intro _; simp [allOs,sumT]
  | succ k ih =>
   intro hk
   obtain ⟨q,hq⟩:∃ q,qs[k]?=some q:=⟨_,List.getElem?_eq_getElem (by omega)⟩
   obtain ⟨ho,hf,_⟩:=h.os k q hq
   rw [allOs_take qs k q hq,List.length_append,sumT_take fs k _ hf]
   have:=ih (by omega)
   have:=ho.len
   omega
 have:=key qs.length (Nat.le_refl _)
 rw [List.take_length,h.len,List.take_length] at this
 exact this
theorem own_shape {w:World} {base E size n:Nat} {v:Value} {xs:List Value} (h:w.ownsRow base E size v n xs):∃ p c,v=.slice p n c:=by
 rcases h.2 with ⟨rfl,h0⟩ | ⟨g,c,cur,rfl,_⟩
 ·exact ⟨none,0,by rw [h0]⟩
 ·exact ⟨_,c,rfl⟩
end Go.Proofs.YtmpmfamiegpmgaaGreatDoor

namespace Go.Proofs.YtmpmfamiegpmgaaGreatDoor
open Go.ChangeShapes Go.WideShapes Go.ChangeAt Go.RowKit Go.Deep
set_option maxRecDepth 20000
set_option linter.unusedVariables false

theorem file_cells {H:Type} {enc:TypeId × Value→H} {W:World} {n:Nat} {a:Addr} {cs:List Value} {y:DataW H × List MemPlace}
  (hc:W.cells? 0 a 2=some cs) (h:DataW.trod enc Tryz.prog W 0 (fun _=>true) true n 76 cs=some y) :
  ∃ x:FileV,W.cell? a=some (.string x.1)∧W.cell? (a.add 1)=some (.string x.2):=by
 obtain ⟨_,hlen,hcell⟩:=World.cells?_some hc
 obtain ⟨xs,k,_,_,_,hxl,hf⟩:=DataW.trod_struct Tryz.underlying76 h
 match cs,hlen,xs,hxl with
 | [v0,v1],_,[y0,y1],_ =>
  have g0:=hf 0 _ rfl
  have g1:=hf 1 _ rfl
  have z9:Tryz.prog.cellsOf 9=1:=by kernel_rfl
  simp [z9] at g0 g1
  obtain ⟨i0,e0,_,_⟩:=DataW.trod_string Tryz.underlying9 g0
  obtain ⟨i1,e1,_,_⟩:=DataW.trod_string Tryz.underlying9 g1
  simp only [List.cons.injEq,and_true] at e0 e1
  subst e0 e1
  have c0:=hcell 0 (by omega)
  have c1:=hcell 1 (by omega)
  refine ⟨⟨i0,i1⟩,?_,c1⟩
  have ha:a.add 0=a:=by unfold Addr.add; simp
  rw [ha] at c0
  simpa using c0

theorem files_arg {H:Type} {enc:TypeId × Value→H} {W:World} {base:Nat} {v:Value} {d:DataW H} {p:List MemPlace} (hv:Value.okWide Tryz.prog W .any base 61 v)
  (h:DataW.Trod enc Tryz.prog W 0 (fun _=>true) true 61 v d p):∃ q n cap fs,v=.slice q n cap∧n≤9223372036854775807∧FIn W q n cap fs:=by
 obtain ⟨p',n,c,rfl⟩:=okWide_slice Tryz.underlying61 hv
 obtain ⟨fuel,hf⟩:=h
 have hce:Tryz.prog.cellsOf 76=2:=by kernel_rfl
 rcases open_slice Tryz.underlying61 hf with ⟨hcs,_⟩ | ⟨a,len,cap,m,nn,D,Pl,hcs,_,hl,hm,hmm,_,hel⟩
 ·simp [Value.cells] at hcs
  obtain ⟨rfl,rfl,rfl⟩:=hcs
  exact ⟨none,0,0,[],rfl,by omega,⟨rfl,.inl rfl⟩⟩
 ·simp [Value.cells] at hcs
  obtain ⟨rfl,rfl,rfl⟩:=hcs
  rw [if_pos rfl] at hmm
  subst hmm
  have hn63:n≤9223372036854775807:=by unfold maxLen at hm; omega
  cases n with
  | zero=>exact ⟨some a,0,m,[],rfl,by omega,⟨rfl,.inl rfl⟩⟩
  | succ k =>
   have each:∀ i,i < m→∃ x:FileV,W.cell? (a.add (i * 2))=some (.string x.1)∧W.cell? ((a.add (i * 2)).add 1)=some (.string x.2):=fun i hi=>by
    obtain ⟨cs',h1,h2⟩:=hel i hi
    rw [hce] at h1
    exact file_cells h1 h2
   have h00:=each 0 (by omega)
   obtain ⟨b,off,spot⟩:=a
   obtain ⟨x0,h0,_⟩:=h00
   have hspot:spot=none:=by simpa [Addr.add] using World.cell?_spot h0
   subst hspot
   have hadd:∀ k,(⟨b,off,none⟩:Addr).add k=⟨b,off+k,none⟩:=fun k=>by
    unfold Addr.add; split <;> simp_all
   have hadd2:∀ o k,(⟨b,o,none⟩:Addr).add k=⟨b,o+k,none⟩:=fun o k=>by
    unfold Addr.add; split <;> simp_all
   obtain ⟨q,hq⟩:=choose_lt each
   refine ⟨some ⟨b,off,none⟩,k+1,m,(List.range (k+1)).map q,rfl,hn63,⟨by simp,.inr ⟨b,off,rfl,hl,World.block_lt_of_cell? W _ h0,?_⟩⟩⟩
   ·intro i f hi
    have hi1:=(List.getElem?_eq_some_iff.1 hi).1
    have hi2:i < m:=by simp at hi1; omega
    obtain ⟨c0,c1⟩:=hq i hi2
    have e:q i=f:=by
     rw [List.getElem?_map,List.getElem?_range (by simpa using hi1)] at hi
     exact Option.some.inj hi
    rw [hadd] at c0 c1
    rw [hadd2] at c1
    rw [← e]
    exact ⟨c0,c1⟩
end Go.Proofs.YtmpmfamiegpmgaaGreatDoor
