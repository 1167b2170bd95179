/-
  An argument that is a slice of files reads as a list of files.; A file among others: what it says alone, with another number and another first name.; The law UnitJoins, walked.; Two units of the same files say the same.; unit's Files, and the statement's own look whether two rows of files are the same.; What a unit hands out is written over: cells keep their kinds; the contracts of a unit's looks together.
-/
import Derived.Test.YtmpmfamiegpmgaaGreatDoorGHD
import Derived.Deep.Slices
import Derived.Deep.SlicePairs
import Derived.ChangeSame
import Derived.ProofKit
import Derived.OpenShut
import Derived.ChangeOld
import Derived.Carry
import Derived.Lib.SmallJoins
import Derived.Test.YtmpmfamiegpmgaaGreatDoorGJA
import Derived.Test.YtmpmfamiegpmgaaGreatDoorGJC
import Derived.Deep.Cut
import Derived.Test.YtmpmfamiegpmgaaGreatDoorGJB
import Derived.Deep.AppendLies
namespace Go.Proofs.YtmpmfamiegpmgaaGreatDoor
open Tryz
open Go.Lib (cell_of_heap hid)
open Go.ChangeShapes Go.WideShapes Go.ChangeAt Go.RowKit Go.Deep
set_option maxRecDepth 20000
set_option linter.unusedVariables false
theorem Gp {H:Type} {enc:TypeId × Value→H} {W:World} {n:Nat} {a:Addr} {cs:List Value} {y:DataW H × List MemPlace}
  (hc:W.cells? 0 a 2=some cs) (h:DataW.trod enc prog W 0 (fun _=>true) true n 76 cs=some y) :
  ∃ x:bn,W.cell? a=some (.string x.1)∧W.cell? (a.add 1)=some (.string x.2):=by
 obtain ⟨_,hlen,hcell⟩:=World.cells?_some hc;obtain ⟨xs,k,_,_,_,hxl,hf⟩:=DataW.trod_struct underlying76 h
 match cs,hlen,xs,hxl with
 | [v0,v1],_,[y0,y1],_ =>
  have g0:=hf 0 _ rfl;have g1:=hf 1 _ rfl;have z9:prog.cellsOf 9=1:=by kernel_rfl
  simp [z9] at g0 g1
  obtain ⟨i0,e0,_,_⟩:=DataW.trod_string underlying9 g0;obtain ⟨i1,e1,_,_⟩:=DataW.trod_string underlying9 g1;simp only [List.cons.injEq,and_true] at e0 e1;subst e0 e1;have c0:=hcell 0 (by omega);have c1:=hcell 1 (by omega);refine ⟨⟨i0,i1⟩,?_,c1⟩
  have ha:a.add 0=a:=by unfold Addr.add; simp
  rw [ha] at c0
  simpa using c0
theorem I7 {H:Type} {enc:TypeId × Value→H} {W:World} {base:Nat} {v:Value} {d:DataW H} {p:List MemPlace} (hv:Value.okWide prog W .any base 61 v)
  (h:DataW.Trod enc prog W 0 (fun _=>true) true 61 v d p):∃ q n cap fs,v=.slice q n cap∧n≤9223372036854775807∧FIn W q n cap fs:=by
 obtain ⟨p',n,c,rfl⟩:=okWide_slice underlying61 hv;obtain ⟨fuel,hf⟩:=h;have hce:prog.cellsOf 76=2:=by kernel_rfl
 rcases open_slice underlying61 hf with ⟨hcs,_⟩ | ⟨a,len,cap,m,nn,D,Pl,hcs,_,hl,hm,hmm,_,hel⟩
 ·simp [Value.cells] at hcs
  obtain ⟨rfl,rfl,rfl⟩:=hcs;exact ⟨none,0,0,[],rfl,by omega,⟨rfl,.inl rfl⟩⟩
 ·simp [Value.cells] at hcs
  obtain ⟨rfl,rfl,rfl⟩:=hcs;rw [if_pos rfl] at hmm;subst hmm;have hn63:n≤9223372036854775807:=by unfold maxLen at hm; omega
  cases n with
  | zero=>exact ⟨some a,0,m,[],rfl,by omega,⟨rfl,.inl rfl⟩⟩
  | succ k =>
   have each:∀ i,i < m→∃ x:bn,W.cell? (a.add (i * 2))=some (.string x.1)∧W.cell? ((a.add (i * 2)).add 1)=some (.string x.2):=fun i hi=>by
    obtain ⟨cs',h1,h2⟩:=hel i hi;rw [hce] at h1;exact Gp h1 h2
   have h00:=each 0 (by omega);obtain ⟨b,off,spot⟩:=a;obtain ⟨x0,h0,_⟩:=h00;have hspot:spot=none:=by simpa [Addr.add] using World.cell?_spot h0
   subst hspot;have hadd:∀ k,(⟨b,off,none⟩:Addr).add k=⟨b,off+k,none⟩:=fun k=>by
    unfold Addr.add; split <;> simp_all
   have Xh:∀ o k,(⟨b,o,none⟩:Addr).add k=⟨b,o+k,none⟩:=fun o k=>by
    unfold Addr.add; split <;> simp_all
   obtain ⟨q,hq⟩:=choose_lt each;refine ⟨some ⟨b,off,none⟩,k+1,m,(List.range (k+1)).map q,rfl,hn63,⟨by simp,.inr ⟨b,off,rfl,hl,World.block_lt_of_cell? W _ h0,?_⟩⟩⟩
   ·intro i f hi
    have hi1:=(List.getElem?_eq_some_iff.1 hi).1;have hi2:i < m:=by simp at hi1; omega
    obtain ⟨c0,c1⟩:=hq i hi2;have e:q i=f:=by
     rw [List.getElem?_map,List.getElem?_range (by simpa using hi1)] at hi;exact Option.some.inj hi
    rw [hadd] at c0 c1;rw [Xh] at c1;rw [← e];exact ⟨c0,c1⟩
open Go.RowKit
set_option linter.unusedSimpArgs false
def uJ (x:Pb):Nat:=((iV x).filter fun p=>[(13:Int)].contains p.1).length
def mi (nd:Br):Nat:=(nd.flatB.filter isOpen).length
theorem DJ (y:Br):mi y=uJ y.pb:=by
 unfold mi uJ;rw [← mQ,List.filter_map,List.length_map]
 rfl
theorem zD (L:List Tok) (first:Int) (ts:List Int):(x:Pb)→(iV (wG L first ts x)).map (·.1)=(iV x).map (·.1)
 | .mk k m f t ns ks=>by
  have:∀ l:List Pb,(∀ y ∈ l,(iV (wG L first ts y)).map (·.1)=(iV y).map (·.1))→(kN (ve L first ts l)).map (·.1)=(kN l).map (·.1):=by
   intro l
   induction l with
   | nil=>intro _; rfl
   | cons y r ih=>intro hh; simp only [ve,kN,List.map_append]; rw [hh y (by simp),ih fun z hz=>hh z (by simp [hz])]
  simp only [wG,iV,List.map_cons];rw [this ks fun y hy=>zD L first ts y]
theorem sF (x:Pb):uJ x=(((iV x).map (·.1)).filter fun k=>[(13:Int)].contains k).length:=by
 unfold uJ;rw [List.filter_map,List.length_map]
 rfl
theorem zH (L:List Tok) (first:Int) (ts:List Int) (x:Pb):uJ (wG L first ts x)=uJ x:=by
 rw [sF,sF,zD]
def toF (i:Int) (v:fK):fK:=⟨i,v.at_,v.end_,v.sp,v.decl⟩
theorem oK.part {s:ByteArray} (hs:s.size≤5000) {i i' a a':Int} {q q':PV} {nd nd' y0 y0':Br} {n n':Nat} {ts ts':List Int}
  (h1:oK s i a q nd y0 n ts) (h2:oK s i' a' q' nd' y0' n' ts'):q'.os=q.os.map (toF i')∧mi nd'=mi nd:=by
 have hx:y0'.pb=y0.pb:=(NY h2.ok h1.ok).1;have R:=vN (by omega) (by omega) h1.ok;have hts:ts'=ts:=by
  refine oh h2.rise h1.rise fun x=>?_
  rw [h2.mem x,h1.mem x,jJ,jJ,hx]
 subst hts;have hL:Hid ((iV y0.pb).flatMap (·.2)).Nodup:=hid (by rw [← jJ]; exact R.nd);have p1:=h1.pb;have p2:=h2.pb;rw [vK] at p1 p2;rw [hx] at p2;have hl1:=h1.len;have hl2:=h2.len;refine ⟨?_,by rw [DJ,DJ,p1,p2,zH,zH]⟩
 ·refine List.ext_getElem? fun k=>?_
  rcases Nat.lt_or_ge k ts'.length with hi | hi
  ·obtain ⟨x,hxi⟩:∃ x,ts'[k]?=some x:=⟨_,List.getElem?_eq_getElem hi⟩
   obtain ⟨z,hz,j,hj,ho⟩:=h1.occ k x hxi;obtain ⟨z',hz',j',hj',ho'⟩:=h2.occ k x hxi;have m1:(z.h.k,z.h.ns) ∈ iV y0.pb:=by rw [← mQ]; exact List.mem_map.2 ⟨z,hz,rfl⟩
   have m2:(z'.h.k,z'.h.ns) ∈ iV y0.pb:=by rw [← hx,← mQ]; exact List.mem_map.2 ⟨z',hz',rfl⟩
   obtain ⟨e,rfl⟩:=Qy _ hL.out _ _ m1 m2 j j' x hj hj';obtain ⟨e1,e2⟩:=Prod.mk.inj e;rw [ho',List.getElem?_map,ho,← e1,← e2]
   rfl
  ·rw [List.getElem?_eq_none (by omega),List.getElem?_eq_none (by rw [List.length_map]; omega)]
theorem GU (L:List Tok) (first:Int) (ts:List Int):(x:Pb)→(wG L first ts x).wt=x.wt
 | .mk k m f t ns ks=>by
  have:∀ l:List Pb,(∀ y ∈ l,(wG L first ts y).wt=y.wt)→wtL (ve L first ts l)=wtL l:=by
   intro l
   induction l with
   | nil=>intro _; rfl
   | cons y r ih=>intro hh; simp only [ve,wtL]; rw [hh y (by simp),ih fun z hz=>hh z (by simp [hz])]
  simp only [wG,Pb.wt,List.length_map];rw [this ks fun y hy=>GU L first ts y]
theorem oK.few {s:ByteArray} (hs:s.size≤5000) {i a:Int} {q:PV} {nd y0:Br} {n:Nat} {ts:List Int} (h:oK s i a q nd y0 n ts):nd.Few∧nd.flatB.length≤1000000:=by
 have R:=vN (by omega) (by omega) h.ok;have p1:=h.pb;rw [vK] at p1;have hw:nd.pb.wt≤1000000:=by rw [p1,GU]; exact R.wt
 exact ⟨yQ nd hw,Nat.le_trans (Qx nd) hw⟩
def pns (qs:List PV) (nds:List Br):List PN:=(qs.zip nds).map fun p=>⟨p.1.pc,p.2⟩
theorem Uy (qs:List PV) (nds:List Br) (h:nds.length=qs.length):(pns qs nds).map PN.pc=qs.map PV.pc:=by
 have:qs=(qs.zip nds).map (·.1):=(List.map_fst_zip (by omega)).symm
 conv=>rhs; rw [this]
 simp only [pns,List.map_map]
 rfl
structure o7 (fs:List bn) (qs:List PV) (nds:List Br):Prop where
 len:qs.length=fs.length
 lenn:nds.length=qs.length
 pt:∀ i q nd,qs[i]?=some q→nds[i]?=some nd→∃ f first,fs[i]?=some f∧lF i f first q nd
theorem kK.parts {K:Nat} {fs:List bn} {pu gp:Nat} {qs:List PV} {nds:List Br} {W:World} (h:kK K fs lF pu gp qs nds W):o7 fs qs nds :=
 ⟨h.len,h.lenn,fun i q nd h1 h2=>⟨_,_,(h.pt i q nd h1 h2).file,(h.pt i q nd h1 h2).good⟩⟩
theorem o7.on {fs gs:List bn} {qs ps:List PV} {nds mds:List Br} (h:o7 fs qs nds) (k:o7 gs ps mds) (d:Nat) (hg:∀ i f,gs[i]?=some f→fs[d+i]?=some f) (hs:∀ f ∈ fs,f.2.size≤5000) (i:Nat) (p:PV) (md:Br) (hp:ps[i]?=some p) (hm:mds[i]?=some md) :
  ∃ q nd,qs[d+i]?=some q∧nds[d+i]?=some nd∧q.os=p.os.map (toF (d+i:Nat))∧mi nd=mi md:=by
 obtain ⟨f,first,hf,⟨y0,n,ts,WU⟩,_⟩:=k.pt i p md hp hm;have hfd:=hg i f hf;have hlt:=(List.getElem?_eq_some_iff.1 hfd).1;have h1:qs[d+i]?=some (qs[d+i]'(by have:=h.len; omega)):=List.getElem?_eq_getElem _;have h2:nds[d+i]?=some (nds[d+i]'(by have:=h.len; have:=h.lenn; omega)):=List.getElem?_eq_getElem _;obtain ⟨f',first',hf',⟨y0',n',ts',hpf'⟩,_⟩:=h.pt (d+i) _ _ h1 h2;rw [hfd] at hf'
 cases hf'
 obtain ⟨r1,r2⟩:=WU.part (hs f (List.mem_of_getElem? hfd)) hpf';exact ⟨_,_,h1,h2,r1,r2⟩
def Jr (d:Nat) (v:fK):fK:=⟨v.file+d,v.at_,v.end_,v.sp,v.decl⟩
theorem PZ {s:ByteArray} {i:Nat} {os:List fK} (h:OsF s i os) (d:Nat):os.map (toF ((d+i:Nat):Int))=os.map (Jr d):=by
 refine List.map_congr_left fun v hv=>?_
 have:=h.file v hv
 cases v
 simp only [toF,Jr] at *;rw [this]
 congr 1
 omega
theorem add_zero (os:List fK):os.map (Jr 0)=os:=by
 conv=>rhs; rw [← List.map_id os]
 refine List.map_congr_left fun v hv=>?_
 cases v
 simp [Jr]
theorem o7.sub {fs gs:List bn} {qs ps:List PV} {nds mds:List Br} (h:o7 fs qs nds) (k:o7 gs ps mds) (d:Nat) (hg:∀ i f,gs[i]?=some f→fs[d+i]?=some f) (hs:∀ f ∈ fs,f.2.size≤5000) :
  ((qs.drop d).take gs.length).map (·.os)=ps.map (fun p=>p.os.map (Jr d))∧((nds.drop d).take gs.length).map mi=mds.map mi:=by
 have hk1:=k.len;have hk2:=k.lenn;have key:∀ i,i < gs.length→∃ p md q nd,ps[i]?=some p∧mds[i]?=some md∧qs[d+i]?=some q∧nds[d+i]?=some nd∧q.os=p.os.map (Jr d)∧mi nd=mi md:=fun i hi=>by
  have hp:ps[i]?=some (ps[i]'(by omega)):=List.getElem?_eq_getElem _;have hm:mds[i]?=some (mds[i]'(by omega)):=List.getElem?_eq_getElem _;obtain ⟨q,nd,h1,h2,h3,h4⟩:=h.on k d hg hs i _ _ hp hm;obtain ⟨_,_,_,_,hof⟩:=k.pt i _ _ hp hm;exact ⟨_,_,q,nd,hp,hm,h1,h2,by rw [h3,PZ hof],h4⟩
 constructor
 ·refine List.ext_getElem? fun i=>?_
  rw [List.getElem?_map,List.getElem?_map]
  rcases Nat.lt_or_ge i gs.length with hi | hi
  ·obtain ⟨p,md,q,nd,h1,h2,h3,h4,h5,h6⟩:=key i hi
   rw [List.getElem?_take_of_lt hi,List.getElem?_drop,h3,h1];simp only [Option.map_some,h5]
  ·rw [List.getElem?_eq_none (by rw [List.length_take]; omega),List.getElem?_eq_none (by omega)]
   rfl
 ·refine List.ext_getElem? fun i=>?_
  rw [List.getElem?_map,List.getElem?_map]
  rcases Nat.lt_or_ge i gs.length with hi | hi
  ·obtain ⟨p,md,q,nd,h1,h2,h3,h4,h5,h6⟩:=key i hi
   rw [List.getElem?_take_of_lt hi,List.getElem?_drop,h4,h2];simp only [Option.map_some,h6]
  ·rw [List.getElem?_eq_none (by rw [List.length_take]; omega),List.getElem?_eq_none (by omega)]
def acv (l:List PV):List (List fK):=l.map (·.os)
theorem QS {fs gs:List bn} {t t':Nat} {k f:Int} (h:Eh fs t 0 0) (ht:jT (fs.map (·.1)) t) (hg:gs.Sublist fs) (ht':jT (gs.map (·.1)) t') (k0:k≠0) (hr:Eh gs t' k f):False:=by
 obtain ⟨_,h2,_⟩ | ⟨_,_,h2,_⟩ | ⟨h1,h2,_⟩:=h
 ·cases h2
 ·cases h2
 ·have hl:=hg.length_le
  obtain ⟨r1,_⟩ | ⟨r1,r2,_⟩ | ⟨_,_,r3,_⟩:=hr
  ·omega
  ·obtain ⟨x,hx,hm⟩:=ht'.tw (by rw [List.length_map]; exact r2)
   have hnd:(fs.map (·.1)).Nodup:=by
    have:=ht.nd
    rw [h2,show fs.length=(fs.map (·.1)).length by rw [List.length_map],List.take_length] at this;exact this
   have Xi:(gs.map (·.1)).Nodup:=hnd.sublist (hg.map _);rw [← List.take_append_drop t' (gs.map (·.1)),List.nodup_append] at Xi;have hx2:x ∈ (gs.map (·.1)).drop t':=by
    refine List.mem_of_getElem? (i:=0) ?_
    rw [List.getElem?_drop];exact hx
   exact Xi.2.2 x hm x hx2 rfl
  ·exact k0 r3
theorem MH {fs gs:List bn} {t t':Nat} {qs:List PV} {nds:List Br} (h:o7 fs qs nds) (hr:Eh fs t 0 0) (ht:jT (fs.map (·.1)) t) (hsub:gs.Sublist fs) (ht':jT (gs.map (·.1)) t') (d:Nat) (hg:∀ i f,gs[i]?=some f→fs[d+i]?=some f) {W W':World} {e:Ending} (hc:BX gs t' jw lF W e W') :
  Below W.heap.size W W'∧∃ pu gp ps mds,kK W.heap.size gs lF pu gp ps mds W'∧e=.returned (.tuple #[.pointer (some ⟨pu,0,none⟩),.agg #[.int .i64 0,.int .i64 0,.int .i64 0]]):=by
 obtain ⟨hb,hc⟩:=hc;refine ⟨hb,?_⟩
 rcases hc with ⟨k,f,k0,hk,_⟩ | ⟨_,i,f,a,c,hf,_,he,_⟩ | ⟨_,pu,gp,ps,mds,hl,he⟩
 ·exact (QS hr ht hsub ht' k0 hk).elim
 ·exfalso
  have hfd:=hg i f hf;have hlt:=(List.getElem?_eq_some_iff.1 hfd).1;have h1:qs[d+i]?=some (qs[d+i]'(by have:=h.len; omega)):=List.getElem?_eq_getElem _;have h2:nds[d+i]?=some (nds[d+i]'(by have:=h.len; have:=h.lenn; omega)):=List.getElem?_eq_getElem _;obtain ⟨f',first',hf',⟨y0',n',ts',hpf'⟩,_⟩:=h.pt (d+i) _ _ h1 h2;rw [hfd] at hf'
  cases hf'
  exact Jl hpf'.ok he
 ·exact ⟨pu,gp,ps,mds,hl,he⟩
theorem MW {W:World} {p:Option Addr} {n c:Nat} {fs:List bn} (h:FIn W p n c fs) (d:Nat):FIn (W.drewN d) p n c fs:=by
 obtain ⟨h1,h2⟩:=h;exact ⟨h1,h2.imp id fun ⟨b,o,h3,h4,h5,h6⟩=>⟨b,o,h3,h4,h5,fun i f hi=>h6 i f hi⟩⟩
structure lC (K:Nat) (fs:List bn) (pu gp:Nat) (qs:List PV) (nds:List Br) (W:World):Prop where
 u:UAt W pu gp (qs.map PV.pc)
 pv:∀ q ∈ qs,sG W q
 pn:∀ q ∈ pns qs nds,q.pc.h=q.nd.h∧q.nd.Lies W∧q.nd.Few∧q.nd.flatB.length≤1000000
 len:qs.length=fs.length
 lenn:nds.length=qs.length
 tot:(bG qs).length≤sumT fs
 fil:∀ v ∈ bG qs,0≤v.file∧v.file < fs.length
theorem Oq {K:Nat} {fs:List bn} {pu gp:Nat} {qs:List PV} {nds:List Br} {W W':World} (h:kK K fs lF pu gp qs nds W) (hs:∀ f ∈ fs,f.1.size≤1500∧f.2.size≤1500) (hb:Below W.heap.size W W'):lC K fs pu gp qs nds W':=by
 refine ⟨h.u.step hb,fun q hq=>?_,fun q hq=>?_,h.len,h.lenn,h.qsF.total,fun v hv=>?_⟩
 ·obtain ⟨i,hi,rfl⟩:=List.getElem_of_mem hq
  obtain ⟨nd,hnd⟩:∃ nd,nds[i]?=some nd:=⟨_,List.getElem?_eq_getElem (by rw [h.lenn]; exact hi)⟩
  exact ((h.pt i _ nd (List.getElem?_eq_getElem hi) hnd).pv).step hb
 ·obtain ⟨⟨q',nd⟩,hm,rfl⟩:=List.mem_map.1 hq
  obtain ⟨i,hi,he⟩:=List.getElem_of_mem hm;rw [List.getElem_zip] at he;obtain ⟨rfl,rfl⟩:=Prod.mk.inj he;rw [List.length_zip] at hi;have hp:=h.pt i _ _ (List.getElem?_eq_getElem (by omega)) (List.getElem?_eq_getElem (by omega));obtain ⟨⟨y0,n,ts,WU⟩,_⟩:=hp.good
  have:=(hs _ (List.mem_of_getElem? hp.file)).2
  obtain ⟨g1,g2⟩:=WU.few (by omega);exact ⟨hp.hd,Br.Lies.step _ hp.lies hb,g1,g2⟩
 ·obtain ⟨i,hi,rfl⟩:=List.getElem_of_mem hv
  obtain ⟨k,q,j,hqk,hqj,hij⟩:=NR qs i _ (List.getElem?_eq_getElem hi);obtain ⟨PQ,hfk,_⟩:=h.qsF.os k q hqk
  have:=PQ.file _ (List.mem_of_getElem? hqj)
  have:=(List.getElem?_eq_some_iff.1 hfk).1
  omega
theorem lC.step {K:Nat} {fs:List bn} {pu gp:Nat} {qs:List PV} {nds:List Br} {W W':World} (h:lC K fs pu gp qs nds W) (hb:Below W.heap.size W W'):lC K fs pu gp qs nds W' :=
 ⟨h.u.step hb,fun q hq=>(h.pv q hq).step hb,fun q hq=>by obtain ⟨h1,h2,h3⟩:=h.pn q hq; exact ⟨h1,Br.Lies.step _ h2 hb,h3⟩,h.len,h.lenn,h.tot,h.fil⟩
theorem lC.occs {K:Nat} {fs:List bn} {pu gp:Nat} {qs:List PV} {nds:List Br} {W:World} (h:lC K fs pu gp qs nds W) (hs:sumT fs≤1500) (hl:fs.length≤4) :
  Calls prog 49 #[.pointer (some ⟨pu,0,none⟩)] W fun e W'=>∃ sp sc,e=.returned (.slice sp (bG qs).length sc)∧W'.ownsRow W.heap.size 41 5 (.slice sp (bG qs).length sc) (bG qs).length (fM (bG qs))∧Below W.heap.size W W':=by
 refine (NJ W pu gp qs h.u h.pv (by have:=h.tot; omega) (by have:=h.len; omega)).mono ?_
 rintro e W' ⟨v,rfl,hr,hb⟩;obtain ⟨sp,sc,rfl⟩:=zi hr;exact ⟨sp,sc,rfl,hr,hb⟩
theorem oK.same {s:ByteArray} {i a:Int} {q q':PV} {nd nd' y0 y0':Br} {n n':Nat} {ts ts':List Int}
  (h1:oK s i a q nd y0 n ts) (h2:oK s i a q' nd' y0' n' ts'):nd'.pb=nd.pb:=by
 have hx:y0'.pb=y0.pb:=(NY h2.ok h1.ok).1;have hts:ts'=ts:=by
  refine oh h2.rise h1.rise fun x=>?_
  rw [h2.mem x,h1.mem x,jJ,jJ,hx]
 subst hts;rw [h1.pb,h2.pb,vK,vK,hx]
theorem D9 (l:List Br):pbs l=l.map Br.pb:=by
 induction l with
 | nil=>rfl
 | cons x r ih=>simp only [pbs,List.map_cons,ih]
theorem Us (x:Br):∀ y:Br,x.pb=y.pb→x.ntr=y.ntr:=by
 induction x using Br.ind with
 | hP h ks ih =>
  intro y hy;obtain ⟨g,js⟩:=y;simp only [Br.pb,Pb.mk.injEq] at hy;obtain ⟨h1,h2,h3,h4,h5,h6⟩:=hy;rw [D9,D9] at h6;simp only [Br.ntr,Ntr.mk.injEq];refine ⟨h1,h2,h3,h4,h5,?_⟩
  rw [nZ,nZ];have hl:ks.length=js.length:=by have:=congrArg List.length h6; simpa using this
  refine List.ext_getElem (by simp [hl]) fun i a b=>?_
  rw [List.getElem_map,List.getElem_map];have ha:i < ks.length:=by simpa using a
  have hb:i < js.length:=by simpa using b
  refine ih _ (List.getElem_mem ha) _ ?_
  have:=List.getElem_of_eq h6 (by simpa using ha)
  simpa using this
theorem QR (x:Br):∀ y:Br,x.ntr=y.ntr→x.Alk true y:=by
 induction x using Br.ind with
 | hP h ks ih =>
  intro y hy;obtain ⟨g,js⟩:=y;simp only [Br.ntr,Ntr.mk.injEq] at hy;obtain ⟨h1,h2,h3,h4,h5,h6⟩:=hy;rw [nZ,nZ] at h6;simp only [Br.Alk,Br.h,Br.ks];refine ⟨h1,h2,h5,fun _=>⟨h3,h4⟩,(sJ _ _ _).2 ?_⟩
  have hl:ks.length=js.length:=by have:=congrArg List.length h6; simpa using this
  refine ⟨hl,fun i a b=>ih _ (List.getElem_mem a) _ ?_⟩
  have:=List.getElem_of_eq h6 (by simpa using a)
  simpa using this
theorem Qu (x:Br):∀ y:Br,x.ntr=y.ntr→x.Few→y.Few:=by
 induction x using Br.ind with
 | hP h ks ih =>
  intro y hy hf;obtain ⟨g,js⟩:=y;simp only [Br.ntr,Ntr.mk.injEq] at hy;obtain ⟨h1,h2,h3,h4,h5,h6⟩:=hy;rw [nZ,nZ] at h6;have hl:ks.length=js.length:=by have:=congrArg List.length h6; simpa using this
  simp only [Br.Few,lu] at hf ⊢;refine ⟨by rw [← h5]; exact hf.1,by rw [← hl]; exact hf.2.1,fun b hb=>?_⟩
  obtain ⟨i,hi,rfl⟩:=List.getElem_of_mem hb;have hk:i < ks.length:=by omega
  have:=List.getElem_of_eq h6 (by simpa using hk)
  exact ih _ (List.getElem_mem hk) _ (by simpa using this) (hf.2.2 _ (List.getElem_mem hk))
theorem Ci {ys zs:List Br} (h:ys.map Br.ntr=zs.map Br.ntr):Gn true ys zs:=by
 have hl:ys.length=zs.length:=by have:=congrArg List.length h; simpa using this
 refine (sJ _ _ _).2 ⟨hl,fun i a b=>QR _ _ ?_⟩
 have:=List.getElem_of_eq h (by simpa using a)
 simpa using this
theorem rq {K K':Nat} {fs:List bn} {pu gp pu' gp':Nat} {qs qs':List PV} {nds nds':List Br} {W W':World} (h:kK K fs lF pu gp qs nds W) (h':kK K' fs lF pu' gp' qs' nds' W') (hs:∀ f ∈ fs,f.2.size≤5000) :
  bG qs'=bG qs∧fC qs'=fC qs∧nds'.map Br.ntr=nds.map Br.ntr∧qs.map (fun q=>q.pc.f)=fs:=by
 have hl:=h.len;have hl':=h'.len;have hn:=h.lenn;have hn':=h'.lenn;obtain ⟨ho,_⟩:=h.parts.sub h'.parts 0 (fun i f hi=>by rw [Nat.zero_add]; exact hi) hs;rw [List.drop_zero,← hl,List.take_length] at ho;have ho2:qs'.map (·.os)=qs.map (·.os):=by
  rw [ho];exact List.map_congr_left fun p _=>(add_zero p.os).symm
 have hf:qs.map (fun q=>q.pc.f)=fs:=by
  refine List.ext_getElem (by simp [hl]) fun i a b=>?_
  have ha:i < qs.length:=by simpa using a
  have:=(h.pt i qs[i] (nds[i]'(by omega)) (List.getElem?_eq_getElem ha) (List.getElem?_eq_getElem _)).file
  rw [List.getElem?_eq_getElem b] at this;rw [List.getElem_map]; exact (Option.some.inj this).symm
 have hf':qs'.map (fun q=>q.pc.f)=fs:=by
  refine List.ext_getElem (by simp [hl']) fun i a b=>?_
  have ha:i < qs'.length:=by simpa using a
  have:=(h'.pt i qs'[i] (nds'[i]'(by omega)) (List.getElem?_eq_getElem ha) (List.getElem?_eq_getElem _)).file
  rw [List.getElem?_eq_getElem b] at this;rw [List.getElem_map]; exact (Option.some.inj this).symm
 refine ⟨?_,?_,?_,hf⟩
 ·unfold bG
  rw [List.flatMap_def,List.flatMap_def,ho2]
 ·unfold fC
  rw [List.flatMap_def,List.flatMap_def]
  congr 1
  refine List.ext_getElem (by simp [hl,hl']) fun i a b=>?_
  rw [List.getElem_map,List.getElem_map];have ha:i < qs'.length:=by simpa using a
  have hb:i < qs.length:=by simpa using b
  have e1:=List.getElem_of_eq ho2 (i:=i) (by simpa using ha);have e2:=List.getElem_of_eq (hf'.trans hf.symm) (i:=i) (by simpa using ha);simp only [List.getElem_map] at e1 e2;simp only [LV,e1,e2]
 ·refine List.ext_getElem (by simp [hn,hn',hl,hl']) fun i a b=>?_
  rw [List.getElem_map,List.getElem_map];have ha:i < nds'.length:=by simpa using a
  have hb:i < nds.length:=by simpa using b
  have hqa:i < qs'.length:=by omega
  have hqb:i < qs.length:=by omega
  have p:=h.pt i qs[i] nds[i] (List.getElem?_eq_getElem hqb) (List.getElem?_eq_getElem hb);have p':=h'.pt i qs'[i] nds'[i] (List.getElem?_eq_getElem hqa) (List.getElem?_eq_getElem ha);obtain ⟨⟨y0,n,ts,g⟩,_⟩:=p.good;obtain ⟨⟨y0',n',ts',g'⟩,_⟩:=p'.good;have e2:=List.getElem_of_eq (hf'.trans hf.symm) (i:=i) (by simpa using hqa);simp only [List.getElem_map] at e2;have e3:qs'[i].pc.first=qs[i].pc.first:=by
   rw [p.first,p'.first];unfold bG;rw [List.flatMap_def,List.flatMap_def,List.map_take,List.map_take,ho2]
  rw [e2,e3] at g';exact Us _ _ (g.same g')
def kJ (l:List bn):List Value:=l.flatMap fun f=>[.string f.1,.string f.2]
theorem yK (a b:List bn):kJ (a++b)=kJ a++kJ b:=by simp [kJ]
theorem wO (l:List bn) (j:Nat) (f:bn) (h:l[j]?=some f):(kJ l)[j * 2]?=some (.string f.1)∧(kJ l)[j * 2+1]?=some (.string f.2):=by
 induction l generalizing j with
 | nil=>simp at h
 | cons x t ih =>
  cases j with
  | zero =>
   simp only [List.getElem?_cons_zero,Option.some.injEq] at h;subst h;exact ⟨rfl,rfl⟩
  | succ j =>
   simp only [List.getElem?_cons_succ] at h;obtain ⟨h1,h2⟩:=ih j h;rw [show (j+1) * 2=j * 2+2 by omega,show j * 2+2+1=(j * 2+1)+2 by omega];exact ⟨h1,h2⟩
theorem ww {W:World} {B n c:Nat} {q:Option Addr} {fs:List bn} (h:W.ownsRow B 76 2 (.slice q n c) n (kJ fs)) (hn:n=fs.length):FIn W q n c fs:=by
 refine ⟨hn,?_⟩
 obtain ⟨_,⟨_,h0⟩ | ⟨g,cc,cur,hv,hg,hh,hle,_⟩⟩:=id h
 ·exact .inl h0
 ·simp only [Value.slice.injEq] at hv
  obtain ⟨rfl,_,rfl⟩:=hv;refine .inr ⟨g,0,rfl,hle,hlt hh,fun i f hi=>?_⟩
  obtain ⟨h1,h2⟩:=wO fs i f hi;rw [Nat.zero_add];exact ⟨kC h (i * 2) _ h1,kC h (i * 2+1) _ h2⟩
set_option maxHeartbeats 4000000 in
theorem DK (W:World) (pu gp:Nat) (ps:List PC) (hu:UAt W pu gp ps) (hL:ps.length≤100000) :
  Calls prog 46 #[.pointer (some ⟨pu,0,none⟩)] W fun e W'=>∃ q c,e=.returned (.slice q ps.length c)∧W'.ownsRow W.heap.size 76 2 (.slice q ps.length c) ps.length (kJ (ps.map PC.f))∧Below W.heap.size W W':=by
 obtain ⟨i76,aab,hy0,hy1,hy2⟩:∃ i76,prog.info? 76=some i76∧i76.zero=some (.agg #[.string ⟨#[]⟩,.string ⟨#[]⟩])∧i76.size=2∧i76.bytes=32:=by
  refine ⟨_,rfl,?_,?_,?_⟩ <;> kernel_rfl
 have HA:=hid (pO W pu _ hu.u);have HU:=hid hu;clear hu
 go_enter func46,ntmps46
 go_wp2_with fail
 refine HA.out.mono ?_
 rintro e w1 ⟨rfl,rfl⟩
 go_wp2_with fail
 go_loopw [3,9] (fun v i wr=>∃ (k:Nat) (q:Option Addr) (c:Nat),k≤ps.length∧i=.int .i64 k∧v=.slice q k c∧Hid (wr.ownsRow W.heap.size 76 2 (.slice q k c) k (kJ ((ps.take k).map PC.f)))∧Hid (Below W.heap.size W wr)) (fun _ i _=>ps.length - (intOf i).toNat)
 case atStart=>exact ⟨0,none,0,by omega,rfl,rfl,hid ⟨rfl,.inl ⟨rfl,rfl⟩⟩,hid (Below.refl _ _)⟩
 case round =>
  obtain ⟨k,q,c,hk,rfl,rfl,HR,HB⟩:=hrel
  by_cases hlt:k < ps.length
  ·obtain ⟨p,hpk⟩:∃ p,ps[k]?=some p:=⟨_,List.getElem?_eq_getElem hlt⟩
   have hbw:=HB.out;obtain ⟨p0,p1,p2,p3,p4,p5,p6,p7,p8,p9⟩:=(HU.out.step hbw).part k p hpk;have hsz:=hbw.size;have Hz:Hid ((ps.take (k+1)).map PC.f=(ps.take k).map PC.f++[p.f]):=hid (by rw [List.take_add_one,hpk]; simp);obtain ⟨⟨nm,tx⟩,⟨hk0,hm0,hf0,ht0,np,nn,nc,ns,kp,kn,kc⟩,first,oa,m⟩:=p
   simp only at p0 p1 p2 p3 p4 p5 p6 p7 p8 p9 Hz
   obtain ⟨WB,ug⟩:∃ WB,WB=wr.alloc (.cells #[.string nm,.string tx,.int .i64 hk0,.int .i64 hm0,.int .i64 hf0,.int .i64 ht0,.slice np nn nc,.slice kp kn kc,.int .i64 first,.slice (some ⟨oa,0,none⟩) m m] 132):=⟨_,rfl⟩
   have hb0:Below wr.heap.size wr WB:=by rw [ug]; exact (Below.refl _ _).alloc (Nat.le_refl _) _
   have hbc:∀ j:Nat,WB.cell? ⟨wr.heap.size,j,none⟩=(#[.string nm,.string tx,.int .i64 hk0,.int .i64 hm0,.int .i64 hf0,.int .i64 ht0,.slice np nn nc,.slice kp kn kc,.int .i64 first,.slice (some ⟨oa,0,none⟩) m m]:Array Value)[j]?:=fun j=>by rw [ug]; exact cell_of_heap (heap_alloc_new wr _) j
   have b0:WB.cell? ⟨wr.heap.size,0,none⟩=some (.string nm):=hbc 0;have b1:WB.cell? ⟨wr.heap.size,1,none⟩=some (.string tx):=hbc 1;have hbb:Below W.heap.size W WB:=hbw.trans (hb0.mono hsz);have hbn:Below WB.heap.size WB (WB.alloc (.cells #[.string nm,.string tx] 76)):=(Below.refl _ _).alloc (Nat.le_refl _) _;have hrow:=row_step (row_step HR.out hb0) hbn;have Uc:Hid (∀ jj u,([.string nm,.string tx]:List Value)[jj]?=some u→(WB.alloc (.cells #[.string nm,.string tx] 76)).cell? ((⟨WB.heap.size,0,none⟩:Addr).add jj)=some u):=hid (World.news_of_block (heap_alloc_new WB (.cells #[.string nm,.string tx] 76)));have hone:∀ u ∈ ([.string nm,.string tx]:List Value),u.oneCell'=true:=fun u hu=>by
    simp only [List.mem_cons,List.not_mem_nil,or_false] at hu
    rcases hu with rfl | rfl <;> rfl
   have EE:Hid (Below W.heap.size W (WB.alloc (.cells #[.string nm,.string tx] 76))):=hid (hbb.trans (hbn.mono hbb.size));have hwz:W.heap.size≤(WB.alloc (.cells #[.string nm,.string tx] 76)).heap.size:=EE.out.size;have O4:=hid ug;have zO:=hid hrow;clear hbw hbc hpk hb0 hbb hbn ug hrow
   go_upto_region 5 with (fail)
   rw [← O4.out]
   go_wp2_with (at_builtin; go_loud (refine wpList_append_lies _ rfl _ _ 61 rfl W.heap.size 76 i76 _ 2 32 underlying61 aab hy0 hy1 hy2 rfl (by decide) _ _ _ rfl zO.out ⟨WB.heap.size,0,none⟩ 1 1 ([.string nm,.string tx]:List Value) rfl rfl Uc.out hone (by omega) (by unfold maxLen; omega) (by omega) hwz (WB.heap.size+1) (by simp) ?_; intro gg cap w7 hown hgrow hat Z8; have HOWN:=hid hown; have LH:=hid hgrow; clear hown hgrow hat))
   have pR:=hid (EE.out.grown LH.out hwz (fun g hg=>(FH zO.out g hg).1))
   go_roundw
   case rel=>exact ⟨k+1,_,_,by omega,by go_num,rfl,hid (by rw [Hz.out,yK]; exact HOWN.out),pR⟩
   case measure=>simp [intOf]; omega
  ·have hkn:k=ps.length:=by omega
   have HF:Hid (wr.ownsRow W.heap.size 76 2 (.slice q ps.length c) ps.length (kJ (ps.map PC.f))):=hid (by have:=HR.out; rw [hkn,List.take_length] at this; exact this);have hlt2:¬ (k:Int) < (ps.length:Int):=by omega
   go_wp2_with fail
   go_ret
   exact ⟨q,c,rfl,HF.out,HB.out⟩
theorem aat (w:World) (a b:ByteArray):(Op.equalIn 10000 76 (.agg #[.string a,.string b]) (.agg #[.string a,.string b])).run prog w=.ok true w:=by
 rw [run_equalIn_agg w 9999 76 _ _ (by kernel_rfl) (by kernel_rfl)];unfold Program.fieldsOf;rw [underlying76]
 simp [Op.eqFields,go_sem]
set_option maxHeartbeats 4000000 in
theorem CP (fs:List bn) (p q:Option Addr) (n c n' c':Nat) (W:World) (h:FIn W p n c fs) (h':FIn W q n' c' fs) (hm:n≤100000000) :
  Calls prog 45 #[.slice p n c,.slice q n' c'] W fun e W'=>e=.returned (.bool true)∧∃ d,W'=W.drewN d:=by
 have hn:=h.1;obtain rfl:n'=n:=by rw [hn]; exact h'.1
 have HI:=hid h;have HI':=hid h';clear h h' hn;have heq:=aat
 go_enter func45,ntmps45
 go_wp2_with fail
 go_loopw [13] (fun i wr=>∃ k d:Nat,k≤n'∧i=.int .i64 k∧wr=W.drewN d) (fun i _=>n' - (intOf i).toNat)
 case atStart=>exact ⟨0,0,by omega,rfl,rfl⟩
 case round =>
  obtain ⟨k,d,hk,rfl,rfl⟩:=hrel
  by_cases hlt:k < n'
  ·obtain ⟨hn1,h0 | ⟨b,o,rfl,hc,hb,hat⟩⟩:=HI.out
   ·omega
   obtain ⟨hn2,h0 | ⟨b',o',rfl,hc',hb',hat'⟩⟩:=HI'.out
   ·omega
   obtain ⟨f,hf⟩:∃ f,fs[k]?=some f:=⟨_,List.getElem?_eq_getElem (by omega)⟩
   obtain ⟨c0,c1⟩:=hat k f hf;obtain ⟨e0,e1⟩:=hat' k f hf;obtain ⟨nm,tx⟩:=f
   simp only at c0 c1 e0 e1
   have r1:(0:Int)≤(k:Int):=by omega
   have r2:(k:Int) < (n':Int):=by omega
   clear hn1 hn2 hat hat' hf
   go_wp2_with fail
   go_quiet (fail)
   go_wp2_with fail
   go_roundw
   case rel=>exact ⟨k+1,_,by omega,by go_num,rfl⟩
   case measure=>simp [intOf]; omega
  ·go_wp2_with fail
   go_ret
   exact ⟨rfl,d,rfl⟩
structure Kd (w w':World):Prop where
 blk:∀ (b:Nat) (cs:Array Value) (T:TypeId),w.heap[b]?=some (.cells cs T (0,0))→∃ cs',w'.heap[b]?=some (.cells cs' T (0,0))
 int:∀ (b j:Nat) (x:Int),w.cell? ⟨b,j,none⟩=some (.int .i64 x)→∃ z,w'.cell? ⟨b,j,none⟩=some (.int .i64 z)
 str:∀ (b j:Nat) (x:ByteArray),w.cell? ⟨b,j,none⟩=some (.string x)→∃ z,w'.cell? ⟨b,j,none⟩=some (.string z)
 sl:∀ (b j:Nat) (p:Option Addr) (n c:Nat),w.cell? ⟨b,j,none⟩=some (.slice p n c)→w'.cell? ⟨b,j,none⟩=some (.slice p n c)
theorem Kd.refl (w:World):Kd w w:=⟨fun _ cs _ h=>⟨cs,h⟩,fun _ _ x h=>⟨x,h⟩,fun _ _ x h=>⟨x,h⟩,fun _ _ _ _ _ h=>h⟩
theorem G6 {w:World} {b b' j:Nat} {cs cs':Array Value} {T T':TypeId} (hb:w.heap[b]?=some (.cells cs T (0,0))) (v:Value) (h:w.heap[b']?=some (.cells cs' T' (0,0))):∃ c2,(w.setCell ⟨b,j,none⟩ v).heap[b']?=some (.cells c2 T' (0,0)):=by
 by_cases e:b'=b
 ·subst e
  rw [hb] at h;simp only [Option.some.injEq,Obj.cells.injEq] at h;obtain ⟨rfl,rfl,_⟩:=h;exact ⟨_,lg hb j v⟩
 ·exact ⟨cs',by rw [Below.heap_setCell _ ⟨b,j,none⟩ v b' e]; exact h⟩
theorem Kd.setI {w w':World} (h:Kd w w') {b j:Nat} {cs:Array Value} {T:TypeId} {x:Int} (hb:w'.heap[b]?=some (.cells cs T (0,0))) (hc:w'.cell? ⟨b,j,none⟩=some (.int .i64 x)) (z:Int):Kd w (w'.setCell ⟨b,j,none⟩ (.int .i64 z)):=by
 refine ⟨fun b' cs' T' h'=>?_,fun b' j' x' h'=>?_,fun b' j' x' h'=>?_,fun b' j' p n c h'=>?_⟩
 ·obtain ⟨c2,h2⟩:=h.blk _ _ _ h'
  exact G6 hb _ h2
 ·obtain ⟨y,h2⟩:=h.int _ _ _ h'
  by_cases e:b=b'∧j=j'
  ·obtain ⟨rfl,rfl⟩:=e
   exact ⟨z,World.cell?_setCell_same _ _ _ hc⟩
  ·exact ⟨y,jb (by omega) h2⟩
 ·obtain ⟨y,h2⟩:=h.str _ _ _ h'
  by_cases e:b=b'∧j=j'
  ·obtain ⟨rfl,rfl⟩:=e
   rw [hc] at h2; cases h2
  ·exact ⟨y,jb (by omega) h2⟩
 ·have h2:=h.sl _ _ _ _ _ h'
  by_cases e:b=b'∧j=j'
  ·obtain ⟨rfl,rfl⟩:=e
   rw [hc] at h2; cases h2
  ·exact jb (by omega) h2
theorem Kd.setS {w w':World} (h:Kd w w') {b j:Nat} {cs:Array Value} {T:TypeId} {x:ByteArray} (hb:w'.heap[b]?=some (.cells cs T (0,0))) (hc:w'.cell? ⟨b,j,none⟩=some (.string x)) (z:ByteArray):Kd w (w'.setCell ⟨b,j,none⟩ (.string z)):=by
 refine ⟨fun b' cs' T' h'=>?_,fun b' j' x' h'=>?_,fun b' j' x' h'=>?_,fun b' j' p n c h'=>?_⟩
 ·obtain ⟨c2,h2⟩:=h.blk _ _ _ h'
  exact G6 hb _ h2
 ·obtain ⟨y,h2⟩:=h.int _ _ _ h'
  by_cases e:b=b'∧j=j'
  ·obtain ⟨rfl,rfl⟩:=e
   rw [hc] at h2; cases h2
  ·exact ⟨y,jb (by omega) h2⟩
 ·obtain ⟨y,h2⟩:=h.str _ _ _ h'
  by_cases e:b=b'∧j=j'
  ·obtain ⟨rfl,rfl⟩:=e
   exact ⟨z,World.cell?_setCell_same _ _ _ hc⟩
  ·exact ⟨y,jb (by omega) h2⟩
 ·have h2:=h.sl _ _ _ _ _ h'
  by_cases e:b=b'∧j=j'
  ·obtain ⟨rfl,rfl⟩:=e
   rw [hc] at h2; cases h2
  ·exact jb (by omega) h2
theorem JY {w:World} {b:Nat} {cs:Array Value} {T:TypeId} (hb:w.heap[b]?=some (.cells cs T (0,0))) (j:Nat):w.frozen? ⟨b,j,none⟩=false:=by simp [World.frozen?,hb]
theorem tu {w:World} {B E size n c:Nat} {q:Option Addr} {xs:List Value} (h:w.ownsRow B E size (.slice q n c) n xs) (hn:0 < n):∃ g cs,q=some ⟨g,0,none⟩∧n≤c∧B≤g∧w.heap[g]?=some (.cells cs E (0,0)):=by
 obtain ⟨_,⟨_,h0⟩ | ⟨g,cc,cur,hv,hg,hh,hle,_⟩⟩:=h
 ·omega
 ·simp only [Value.slice.injEq,true_and] at hv
  obtain ⟨rfl,rfl⟩:=hv;exact ⟨g,cur,rfl,hle,hg,hh⟩
def UB (K:Nat) (w:World) (y:Br):Prop :=
 y.h.kn≤1000000∧(y.h.kn=0∨∃ kb cs,y.h.kp=some ⟨kb,0,none⟩∧y.h.kn≤y.h.kc∧K≤kb∧w.heap[kb]?=some (.cells cs 26 (0,0)) ∧
  ∀ k,k < y.h.kn→∃ h:Hd,dV w kb (k * 6) h∧h.nn≤1000000∧(h.nn=0∨∃ nb cs,h.np=some ⟨nb,0,none⟩∧h.nn≤h.nc∧K≤nb∧w.heap[nb]?=some (.cells cs 3 (0,0))∧∀ o,o < h.nn→∃ x,w.cell? ⟨nb,o,none⟩=some (.int .i64 x)))
theorem aak {K:Nat} {w:World} {y:Br} (hl:y.Lies w) (hf:y.Few) (hr:Fre K w y):UB K w y:=by
 obtain ⟨_,⟨k1,k2⟩,k3⟩:=(bW _ _).1 hl;have hks:y.ks.length≤1000000:=by cases y; simp only [Br.Few] at hf; exact hf.2.1
 refine ⟨by omega,?_⟩
 rcases hr.1 with h0 | ⟨kb,cs,h1,h2,h3⟩
 ·exact .inl h0
 by_cases h0:y.h.kn=0
 ·exact .inl h0
 obtain ⟨b',off,hp,hc,hb,hat⟩:=k2.resolve_left h0;rw [h1] at hp;simp only [Option.some.injEq,Addr.mk.injEq,and_true] at hp;obtain ⟨rfl,rfl⟩:=hp;refine .inr ⟨kb,cs,h1,hc,h2,h3,fun k hk=>?_⟩
 have hkl:k < y.ks.length:=by omega
 have hbr:=hat k hkl;rw [Nat.zero_add] at hbr;refine ⟨y.ks[k].h,hbr,?_,?_⟩
 ·have hfk:=BH hf _ (List.getElem_mem hkl)
  have:=((bW _ _).1 (k3 _ (List.getElem_mem hkl))).1.1
  cases hy:y.ks[k] with
  | mk h ks=>rw [hy] at hfk this; simp only [Br.Few,Br.h] at hfk this ⊢; omega
 ·obtain ⟨n1,n2⟩:=((bW _ _).1 (k3 _ (List.getElem_mem hkl))).1
  rcases hr.2 _ (List.getElem_mem hkl) with h5 | ⟨nb,cs',h5,h6,h7⟩
  ·exact .inl h5
  by_cases h8:y.ks[k].h.nn=0
  ·exact .inl h8
  obtain ⟨b',off,hp,hc',hb',hat'⟩:=n2.resolve_left h8;rw [h5] at hp;simp only [Option.some.injEq,Addr.mk.injEq,and_true] at hp;obtain ⟨rfl,rfl⟩:=hp;refine .inr ⟨nb,cs',h5,hc',h6,h7,fun o ho=>⟨(y.ks[k].h.ns)[o]'(by omega),?_⟩⟩
  have:=hat' o (by omega)
  rw [Nat.zero_add] at this;exact this
theorem aaW (w:World) (k f a:Int) (hk:k≠0):(Op.equalIn 10000 65 (.agg #[.int .i64 k,.int .i64 f,.int .i64 a]) (.agg #[.int .i64 0,.int .i64 0,.int .i64 0])).run prog w=.ok false w:=by
 rw [run_equalIn_agg w 9999 65 _ _ (by kernel_rfl) (by kernel_rfl)];unfold Program.fieldsOf;rw [underlying65];have hb:(k == 0)=false:=by simpa using hk
 simp [Op.eqFields,go_sem,hb]
theorem SG (w:World):(Op.equalIn 10000 65 (.agg #[.int .i64 0,.int .i64 0,.int .i64 0]) (.agg #[.int .i64 0,.int .i64 0,.int .i64 0])).run prog w=.ok true w:=by
 rw [run_equalIn_agg w 9999 65 _ _ (by kernel_rfl) (by kernel_rfl)];unfold Program.fieldsOf;rw [underlying65]
 simp [Op.eqFields,go_sem]
theorem D6 {fs:List bn} {t:Nat} {W W':World} {e:Ending} (h:BX fs t jw lF W e W'):∃ (q:Option Addr) (x1 x2 x3:Int),e=.returned (.tuple #[.pointer q,.agg #[.int .i64 x1,.int .i64 x2,.int .i64 x3]])∧((q=none∧x1≠0)∨x1=0∧x2=0∧x3=0∧Eh fs t 0 0∧∃ pu gp qs nds,q=some ⟨pu,0,none⟩∧kK W.heap.size fs lF pu gp qs nds W'):=by
 rcases h.2 with ⟨k,f,hk,_,he⟩ | ⟨_,i,f,a,c,_,hc,_,_,he⟩ | ⟨hr,pu,gp,qs,nds,h1,he⟩
 ·exact ⟨_,_,_,_,he,.inl ⟨rfl,hk⟩⟩
 ·exact ⟨_,_,_,_,he,.inl ⟨rfl,hc⟩⟩
 ·exact ⟨_,_,_,_,he,.inr ⟨rfl,rfl,rfl,hr,_,_,_,_,rfl,h1⟩⟩
theorem qj (qs:List PV):(fC qs).length=(bG qs).length:=by
 induction qs with
 | nil=>rfl
 | cons x r ih=>simp only [fC,bG,List.flatMap_cons,List.length_append,LV,List.length_map] at *; rw [ih]
theorem lC.files {K:Nat} {fs:List bn} {pu gp:Nat} {qs:List PV} {nds:List Br} {W:World} (h:lC K fs pu gp qs nds W) (hf:qs.map (fun q=>q.pc.f)=fs) (hl:fs.length≤4) :
  Calls prog 46 #[.pointer (some ⟨pu,0,none⟩)] W fun e W'=>∃ q c,e=.returned (.slice q fs.length c)∧W'.ownsRow W.heap.size 76 2 (.slice q fs.length c) fs.length (kJ fs)∧Below W.heap.size W W':=by
 have e1:(qs.map PV.pc).length=fs.length:=by rw [List.length_map,h.len]
 have e2:(qs.map PV.pc).map PC.f=fs:=by rw [List.map_map]; exact hf
 have:=DK W pu gp (qs.map PV.pc) h.u (by omega)
 rw [e1,e2] at this;exact this
theorem lC.names {K:Nat} {fs:List bn} {pu gp:Nat} {qs:List PV} {nds:List Br} {W:World} (h:lC K fs pu gp qs nds W) (hf:qs.map (fun q=>q.pc.f)=fs) (hs:sumT fs≤1500) (hz:∀ f ∈ fs,f.2.size≤1500) (hl:fs.length≤4) :
  Calls prog 50 #[.pointer (some ⟨pu,0,none⟩)] W fun e W'=>∃ q c,e=.returned (.slice q (bG qs).length c)∧W'.ownsRow W.heap.size 9 1 (.slice q (bG qs).length c) (bG qs).length ((fC qs).map Value.string)∧Below W.heap.size W W':=by
 refine (yT W pu gp qs h.u h.pv (by rw [qj]; have:=h.tot; omega) (fun q hq=>?_) (by have:=h.len; omega)).mono ?_
 ·have:q.pc.f ∈ fs:=by rw [← hf]; exact List.mem_map.2 ⟨q,hq,rfl⟩
  have:=hz _ this
  omega
 ·rintro e W' ⟨v,rfl,hr,hb⟩
  obtain ⟨sp,sc,rfl⟩:=zi hr;rw [qj] at hr ⊢;exact ⟨sp,sc,rfl,hr,hb⟩
theorem UW (qs:List PV) (nds:List Br) (h:nds.length=qs.length):(pns qs nds).map (fun q=>q.nd.ntr)=nds.map Br.ntr:=by
 have:nds=(qs.zip nds).map (·.2):=(List.map_snd_zip (by omega)).symm
 conv=>rhs; rw [this]
 simp only [pns,List.map_map]
 rfl
theorem lC.nodes {K:Nat} {fs:List bn} {pu gp:Nat} {qs:List PV} {nds:List Br} {W:World} (h:lC K fs pu gp qs nds W) (hl:fs.length≤4) :
  Calls prog 48 #[.pointer (some ⟨pu,0,none⟩)] W fun e W'=>∃ q c ys,e=.returned (.slice q fs.length c)∧W'.ownsRow W.heap.size 26 6 (.slice q fs.length c) fs.length (bK ys)∧fs.length=ys.length∧(∀ y ∈ ys,y.Lies W'∧y.Few∧Fre W.heap.size W' y)∧ys.map Br.ntr=nds.map Br.ntr∧Below W.heap.size W W':=by
 have hlen:(pns qs nds).length=fs.length:=by
  unfold pns;rw [List.length_map,List.length_zip,h.lenn,Nat.min_self,h.len]
 refine (IC W pu gp (pns qs nds) (by rw [Uy qs nds h.lenn]; exact h.u) h.pn (by omega)).mono ?_
 rintro e W' ⟨q,c,ys,rfl,h1,h2,h3,h4,h5⟩;rw [hlen] at h1 h2;rw [UW qs nds h.lenn] at h4;refine ⟨q,c,ys,by rw [hlen],h1,h2,fun y hy=>⟨(h3 y hy).1,?_,(h3 y hy).2⟩,h4,h5⟩
 have hm:y.ntr ∈ nds.map Br.ntr:=by rw [← h4]; exact List.mem_map.2 ⟨y,hy,rfl⟩
 obtain ⟨nd,hnd,he⟩:=List.mem_map.1 hm;obtain ⟨i,hi,rfl⟩:=List.getElem_of_mem hnd;have hq:i < qs.length:=by rw [← h.lenn]; exact hi
 have hpm:(⟨qs[i].pc,nds[i]⟩:PN) ∈ pns qs nds:=by
  unfold pns;refine List.mem_map.2 ⟨(qs[i],nds[i]),?_,rfl⟩
  refine List.mem_iff_getElem.2 ⟨i,by rw [List.length_zip]; omega,by rw [List.getElem_zip]⟩
 exact Qu _ _ he (h.pn _ hpm).2.2.1
theorem NZ {W:World} {B n c:Nat} {q:Option Addr} {l:List ByteArray} (h:W.ownsRow B 9 1 (.slice q n c) n (l.map Value.string)) (hn:n=l.length):In W q n c l:=by
 refine ⟨hn,?_⟩
 by_cases h0:n=0
 ·exact .inl h0
 obtain ⟨g,cs,rfl,hle,hg,hh⟩:=tu h (by omega);refine .inr ⟨g,0,rfl,hle,hlt hh,fun i hi=>?_⟩
 rw [Nat.zero_add];exact kC h i _ (by rw [List.getElem?_map,List.getElem?_eq_getElem hi]; rfl)
theorem FIn.step {W W':World} {p:Option Addr} {n c:Nat} {fs:List bn} (h:FIn W p n c fs) (hb:Below W.heap.size W W'):FIn W' p n c fs:=by
 obtain ⟨h1,h2⟩:=h;refine ⟨h1,h2.imp id fun ⟨b,o,h3,h4,h5,h6⟩=>⟨b,o,h3,h4,Nat.lt_of_lt_of_le h5 hb.size,fun i f hi=>?_⟩⟩
 obtain ⟨g1,g2⟩:=h6 i f hi;exact ⟨(hb.cell (p:=⟨b,_,none⟩) h5).trans g1,(hb.cell (p:=⟨b,_,none⟩) h5).trans g2⟩
end Go.Proofs.YtmpmfamiegpmgaaGreatDoor
