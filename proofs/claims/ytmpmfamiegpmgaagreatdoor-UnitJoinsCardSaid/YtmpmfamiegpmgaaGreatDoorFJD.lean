/-
  An argument that is a slice of files reads as a list of files.; A file among others: what it says alone, with another number and another first name.; The law UnitJoins, walked.; The law UnitJoins, as its row wants it.
-/
import Derived.Test.YtmpmfamiegpmgaaGreatDoorFHD
import Derived.Deep.Slices
import Derived.Deep.SlicePairs
import Derived.ChangeSame
import Derived.ProofKit
import Derived.OpenShut
import Derived.ChangeOld
import Derived.Carry
import Derived.Lib.SmallJoins
import Derived.Test.YtmpmfamiegpmgaaGreatDoorFJB
import Derived.Test.YtmpmfamiegpmgaaGreatDoorFJC
import Derived.Deep.Cut
namespace Go.Proofs.YtmpmfamiegpmgaaGreatDoor
open Tryz
open Go.Lib (cell_of_heap hid)
open Go.ChangeShapes Go.WideShapes Go.ChangeAt Go.RowKit Go.Deep
set_option maxRecDepth 20000
set_option linter.unusedVariables false
theorem Gv {H:Type} {enc:TypeId × Value→H} {W:World} {n:Nat} {a:Addr} {cs:List Value} {y:DataW H × List MemPlace}
  (hc:W.cells? 0 a 2=some cs) (h:DataW.trod enc prog W 0 (fun _=>true) true n 76 cs=some y) :
  ∃ x:bC,W.cell? a=some (.string x.1)∧W.cell? (a.add 1)=some (.string x.2):=by
 obtain ⟨_,hlen,hcell⟩:=World.cells?_some hc;obtain ⟨xs,k,_,_,_,hxl,hf⟩:=DataW.trod_struct underlying76 h
 match cs,hlen,xs,hxl with
 | [v0,v1],_,[y0,y1],_ =>
  have g0:=hf 0 _ rfl;have g1:=hf 1 _ rfl;have z9:prog.cellsOf 9=1:=by kernel_rfl
  simp [z9] at g0 g1
  obtain ⟨i0,e0,_,_⟩:=DataW.trod_string underlying9 g0;obtain ⟨i1,e1,_,_⟩:=DataW.trod_string underlying9 g1;simp only [List.cons.injEq,and_true] at e0 e1;subst e0 e1;have c0:=hcell 0 (by omega);have c1:=hcell 1 (by omega);refine ⟨⟨i0,i1⟩,?_,c1⟩
  have ha:a.add 0=a:=by unfold Addr.add; simp
  rw [ha] at c0
  simpa using c0
theorem Jg {H:Type} {enc:TypeId × Value→H} {W:World} {base:Nat} {v:Value} {d:DataW H} {p:List MemPlace} (hv:Value.okWide prog W .any base 61 v)
  (h:DataW.Trod enc prog W 0 (fun _=>true) true 61 v d p):∃ q n cap fs,v=.slice q n cap∧n≤9223372036854775807∧FIn W q n cap fs:=by
 obtain ⟨p',n,c,rfl⟩:=okWide_slice underlying61 hv;obtain ⟨fuel,hf⟩:=h;have hce:prog.cellsOf 76=2:=by kernel_rfl
 rcases open_slice underlying61 hf with ⟨hcs,_⟩ | ⟨a,len,cap,m,nn,D,Pl,hcs,_,hl,hm,hmm,_,hel⟩
 ·simp [Value.cells] at hcs
  obtain ⟨rfl,rfl,rfl⟩:=hcs;exact ⟨none,0,0,[],rfl,by omega,⟨rfl,.inl rfl⟩⟩
 ·simp [Value.cells] at hcs
  obtain ⟨rfl,rfl,rfl⟩:=hcs;rw [if_pos rfl] at hmm;subst hmm;have hn63:n≤9223372036854775807:=by unfold maxLen at hm; omega
  cases n with
  | zero=>exact ⟨some a,0,m,[],rfl,by omega,⟨rfl,.inl rfl⟩⟩
  | succ k =>
   have each:∀ i,i < m→∃ x:bC,W.cell? (a.add (i * 2))=some (.string x.1)∧W.cell? ((a.add (i * 2)).add 1)=some (.string x.2):=fun i hi=>by
    obtain ⟨cs',h1,h2⟩:=hel i hi;rw [hce] at h1;exact Gv h1 h2
   have h00:=each 0 (by omega);obtain ⟨b,off,spot⟩:=a;obtain ⟨x0,h0,_⟩:=h00;have hspot:spot=none:=by simpa [Addr.add] using World.cell?_spot h0
   subst hspot;have hadd:∀ k,(⟨b,off,none⟩:Addr).add k=⟨b,off+k,none⟩:=fun k=>by
    unfold Addr.add; split <;> simp_all
   have XG:∀ o k,(⟨b,o,none⟩:Addr).add k=⟨b,o+k,none⟩:=fun o k=>by
    unfold Addr.add; split <;> simp_all
   obtain ⟨q,hq⟩:=choose_lt each;refine ⟨some ⟨b,off,none⟩,k+1,m,(List.range (k+1)).map q,rfl,hn63,⟨by simp,.inr ⟨b,off,rfl,hl,World.block_lt_of_cell? W _ h0,?_⟩⟩⟩
   ·intro i f hi
    have hi1:=(List.getElem?_eq_some_iff.1 hi).1;have hi2:i < m:=by simp at hi1; omega
    obtain ⟨c0,c1⟩:=hq i hi2;have e:q i=f:=by
     rw [List.getElem?_map,List.getElem?_range (by simpa using hi1)] at hi;exact Option.some.inj hi
    rw [hadd] at c0 c1;rw [XG] at c1;rw [← e];exact ⟨c0,c1⟩
open Go.RowKit
set_option linter.unusedSimpArgs false
def uq (x:Pb):Nat:=((gY x).filter fun p=>[(13:Int)].contains p.1).length
def eX (nd:Br):Nat:=(nd.flatB.filter isOpen).length
theorem DV (y:Br):eX y=uq y.pb:=by
 unfold eX uq;rw [← kG,List.filter_map,List.length_map]
 rfl
theorem yZ (L:List Tok) (first:Int) (ts:List Int):(x:Pb)→(gY (o9 L first ts x)).map (·.1)=(gY x).map (·.1)
 | .mk k m f t ns ks=>by
  have:∀ l:List Pb,(∀ y ∈ l,(gY (o9 L first ts y)).map (·.1)=(gY y).map (·.1))→(kL (qI L first ts l)).map (·.1)=(kL l).map (·.1):=by
   intro l
   induction l with
   | nil=>intro _; rfl
   | cons y r ih=>intro hh; simp only [qI,kL,List.map_append]; rw [hh y (by simp),ih fun z hz=>hh z (by simp [hz])]
  simp only [o9,gY,List.map_cons];rw [this ks fun y hy=>yZ L first ts y]
theorem sJ (x:Pb):uq x=(((gY x).map (·.1)).filter fun k=>[(13:Int)].contains k).length:=by
 unfold uq;rw [List.filter_map,List.length_map]
 rfl
theorem zK (L:List Tok) (first:Int) (ts:List Int) (x:Pb):uq (o9 L first ts x)=uq x:=by
 rw [sJ,sJ,yZ]
def toF (i:Int) (v:fM):fM:=⟨i,v.at_,v.end_,v.sp,v.decl⟩
theorem pM.part {s:ByteArray} (hs:s.size≤5000) {i i' a a':Int} {q q':PV} {nd nd' y0 y0':Br} {n n':Nat} {ts ts':List Int}
  (h1:pM s i a q nd y0 n ts) (h2:pM s i' a' q' nd' y0' n' ts'):q'.os=q.os.map (toF i')∧eX nd'=eX nd:=by
 have hx:y0'.pb=y0.pb:=(UV h2.ok h1.ok).1;have R:=uf (by omega) (by omega) h1.ok;have hts:ts'=ts:=by
  refine oG h2.rise h1.rise fun x=>?_
  rw [h2.mem x,h1.mem x,jm,jm,hx]
 subst hts;have hL:Hid ((gY y0.pb).flatMap (·.2)).Nodup:=hid (by rw [← jm]; exact R.nd);have p1:=h1.pb;have p2:=h2.pb;rw [Az] at p1 p2;rw [hx] at p2;have hl1:=h1.len;have hl2:=h2.len;refine ⟨?_,by rw [DV,DV,p1,p2,zK,zK]⟩
 ·refine List.ext_getElem? fun k=>?_
  rcases Nat.lt_or_ge k ts'.length with hi | hi
  ·obtain ⟨x,hxi⟩:∃ x,ts'[k]?=some x:=⟨_,List.getElem?_eq_getElem hi⟩
   obtain ⟨z,hz,j,hj,ho⟩:=h1.occ k x hxi;obtain ⟨z',hz',j',hj',ho'⟩:=h2.occ k x hxi;have m1:(z.h.k,z.h.ns) ∈ gY y0.pb:=by rw [← kG]; exact List.mem_map.2 ⟨z,hz,rfl⟩
   have m2:(z'.h.k,z'.h.ns) ∈ gY y0.pb:=by rw [← hx,← kG]; exact List.mem_map.2 ⟨z',hz',rfl⟩
   obtain ⟨e,rfl⟩:=Ha _ hL.out _ _ m1 m2 j j' x hj hj';obtain ⟨e1,e2⟩:=Prod.mk.inj e;rw [ho',List.getElem?_map,ho,← e1,← e2]
   rfl
  ·rw [List.getElem?_eq_none (by omega),List.getElem?_eq_none (by rw [List.length_map]; omega)]
theorem G7 (L:List Tok) (first:Int) (ts:List Int):(x:Pb)→(o9 L first ts x).wt=x.wt
 | .mk k m f t ns ks=>by
  have:∀ l:List Pb,(∀ y ∈ l,(o9 L first ts y).wt=y.wt)→wtL (qI L first ts l)=wtL l:=by
   intro l
   induction l with
   | nil=>intro _; rfl
   | cons y r ih=>intro hh; simp only [qI,wtL]; rw [hh y (by simp),ih fun z hz=>hh z (by simp [hz])]
  simp only [o9,Pb.wt,List.length_map];rw [this ks fun y hy=>G7 L first ts y]
theorem pM.few {s:ByteArray} (hs:s.size≤5000) {i a:Int} {q:PV} {nd y0:Br} {n:Nat} {ts:List Int} (h:pM s i a q nd y0 n ts):nd.Few∧nd.flatB.length≤1000000:=by
 have R:=uf (by omega) (by omega) h.ok;have p1:=h.pb;rw [Az] at p1;have hw:nd.pb.wt≤1000000:=by rw [p1,G7]; exact R.wt
 exact ⟨uN nd hw,Nat.le_trans (Ru nd) hw⟩
theorem AB (qs:List PN):∀ k,(tells qs k).length=((qs.take k).map fun q=>eX q.nd).sum:=by
 intro k
 induction k with
 | zero=>rfl
 | succ k ih =>
  unfold tells;rw [List.length_append,ih,List.take_add_one,List.map_append,List.sum_append]
  cases h:qs[k]? with
  | none=>rfl
  | some q=>simp [eX]
theorem JM (qs:List PN):(tells qs qs.length).length=(qs.map fun q=>eX q.nd).sum:=by
 rw [AB,List.take_length]
def pns (qs:List PV) (nds:List Br):List PN:=(qs.zip nds).map fun p=>⟨p.1.pc,p.2⟩
theorem Vo (qs:List PV) (nds:List Br) (h:nds.length=qs.length):(pns qs nds).map PN.pc=qs.map PV.pc:=by
 have:qs=(qs.zip nds).map (·.1):=(List.map_fst_zip (by omega)).symm
 conv=>rhs; rw [this]
 simp only [pns,List.map_map]
 rfl
theorem KE (qs:List PV) (nds:List Br) (h:nds.length=qs.length):((pns qs nds).map fun q=>eX q.nd)=nds.map eX:=by
 have:nds=(qs.zip nds).map (·.2):=(List.map_snd_zip (by omega)).symm
 conv=>rhs; rw [this]
 simp only [pns,List.map_map]
 rfl
structure jR (fs:List bC) (qs:List PV) (nds:List Br):Prop where
 len:qs.length=fs.length
 lenn:nds.length=qs.length
 pt:∀ i q nd,qs[i]?=some q→nds[i]?=some nd→∃ f first,fs[i]?=some f∧oO i f first q nd
theorem mr.parts {K:Nat} {fs:List bC} {pu gp:Nat} {qs:List PV} {nds:List Br} {W:World} (h:mr K fs oO pu gp qs nds W):jR fs qs nds :=
 ⟨h.len,h.lenn,fun i q nd h1 h2=>⟨_,_,(h.pt i q nd h1 h2).file,(h.pt i q nd h1 h2).good⟩⟩
theorem jR.on {fs gs:List bC} {qs ps:List PV} {nds mds:List Br} (h:jR fs qs nds) (k:jR gs ps mds) (d:Nat) (hg:∀ i f,gs[i]?=some f→fs[d+i]?=some f) (hs:∀ f ∈ fs,f.2.size≤5000) (i:Nat) (p:PV) (md:Br) (hp:ps[i]?=some p) (hm:mds[i]?=some md) :
  ∃ q nd,qs[d+i]?=some q∧nds[d+i]?=some nd∧q.os=p.os.map (toF (d+i:Nat))∧eX nd=eX md:=by
 obtain ⟨f,first,hf,⟨y0,n,ts,Xr⟩,_⟩:=k.pt i p md hp hm;have hfd:=hg i f hf;have hlt:=(List.getElem?_eq_some_iff.1 hfd).1;have h1:qs[d+i]?=some (qs[d+i]'(by have:=h.len; omega)):=List.getElem?_eq_getElem _;have h2:nds[d+i]?=some (nds[d+i]'(by have:=h.len; have:=h.lenn; omega)):=List.getElem?_eq_getElem _;obtain ⟨f',first',hf',⟨y0',n',ts',hpf'⟩,_⟩:=h.pt (d+i) _ _ h1 h2;rw [hfd] at hf'
 cases hf'
 obtain ⟨r1,r2⟩:=Xr.part (hs f (List.mem_of_getElem? hfd)) hpf';exact ⟨_,_,h1,h2,r1,r2⟩
def yI (d:Nat) (v:fM):fM:=⟨v.file+d,v.at_,v.end_,v.sp,v.decl⟩
theorem QE {s:ByteArray} {i:Nat} {os:List fM} (h:OsF s i os) (d:Nat):os.map (toF ((d+i:Nat):Int))=os.map (yI d):=by
 refine List.map_congr_left fun v hv=>?_
 have:=h.file v hv
 cases v
 simp only [toF,yI] at *;rw [this]
 congr 1
 omega
theorem add_zero (os:List fM):os.map (yI 0)=os:=by
 conv=>rhs; rw [← List.map_id os]
 refine List.map_congr_left fun v hv=>?_
 cases v
 simp [yI]
theorem jR.sub {fs gs:List bC} {qs ps:List PV} {nds mds:List Br} (h:jR fs qs nds) (k:jR gs ps mds) (d:Nat) (hg:∀ i f,gs[i]?=some f→fs[d+i]?=some f) (hs:∀ f ∈ fs,f.2.size≤5000) :
  ((qs.drop d).take gs.length).map (·.os)=ps.map (fun p=>p.os.map (yI d))∧((nds.drop d).take gs.length).map eX=mds.map eX:=by
 have hk1:=k.len;have hk2:=k.lenn;have key:∀ i,i < gs.length→∃ p md q nd,ps[i]?=some p∧mds[i]?=some md∧qs[d+i]?=some q∧nds[d+i]?=some nd∧q.os=p.os.map (yI d)∧eX nd=eX md:=fun i hi=>by
  have hp:ps[i]?=some (ps[i]'(by omega)):=List.getElem?_eq_getElem _;have hm:mds[i]?=some (mds[i]'(by omega)):=List.getElem?_eq_getElem _;obtain ⟨q,nd,h1,h2,h3,h4⟩:=h.on k d hg hs i _ _ hp hm;obtain ⟨_,_,_,_,hof⟩:=k.pt i _ _ hp hm;exact ⟨_,_,q,nd,hp,hm,h1,h2,by rw [h3,QE hof],h4⟩
 constructor
 ·refine List.ext_getElem? fun i=>?_
  rw [List.getElem?_map,List.getElem?_map]
  rcases Nat.lt_or_ge i gs.length with hi | hi
  ·obtain ⟨p,md,q,nd,h1,h2,h3,h4,h5,h6⟩:=key i hi
   rw [List.getElem?_take_of_lt hi,List.getElem?_drop,h3,h1];simp only [Option.map_some,h5]
  ·rw [List.getElem?_eq_none (by rw [List.length_take]; omega),List.getElem?_eq_none (by omega)]
   rfl
 ·refine List.ext_getElem? fun i=>?_
  rw [List.getElem?_map,List.getElem?_map]
  rcases Nat.lt_or_ge i gs.length with hi | hi
  ·obtain ⟨p,md,q,nd,h1,h2,h3,h4,h5,h6⟩:=key i hi
   rw [List.getElem?_take_of_lt hi,List.getElem?_drop,h4,h2];simp only [Option.map_some,h6]
  ·rw [List.getElem?_eq_none (by rw [List.length_take]; omega),List.getElem?_eq_none (by omega)]
def pz (l:List PV):List (List fM):=l.map (·.os)
theorem jR.joined {fs:List bC} {n:Nat} (hn:n≤fs.length) {qs qa qb:List PV} {nds na nb:List Br} (h:jR fs qs nds) (a:jR (fs.take n) qa na) (b:jR (fs.drop n) qb nb) (hs:∀ f ∈ fs,f.2.size≤5000) :
  bH qs=bH qa++(bH qb).map (yI n)∧(nds.map eX).sum=(na.map eX).sum+(nb.map eX).sum:=by
 obtain ⟨a1,a2⟩:=h.sub a 0 (fun i f hi=>by
  rw [Nat.zero_add];have hlt:=(List.getElem?_eq_some_iff.1 hi).1;rw [List.length_take] at hlt;rw [List.getElem?_take_of_lt (by omega)] at hi;exact hi) hs
 obtain ⟨b1,b2⟩:=h.sub b n (fun i f hi=>by rw [List.getElem?_drop] at hi; exact hi) hs;have hl:=h.len;have hl2:=h.lenn;rw [List.drop_zero,List.length_take,Nat.min_eq_left hn] at a1 a2;have hd:(fs.drop n).length=(qs.drop n).length:=by rw [List.length_drop,List.length_drop]; omega
 have hd2:(fs.drop n).length=(nds.drop n).length:=by rw [List.length_drop,List.length_drop]; omega
 rw [hd,List.take_length] at b1;rw [hd2,List.take_length] at b2;have e1:pz qs=pz (qs.take n)++pz (qs.drop n):=by
  unfold pz;rw [← List.map_append,List.take_append_drop]
 constructor
 ·have g:∀ l:List PV,bH l=(pz l).flatten:=fun l=>by unfold bH pz; rw [List.flatMap_def]
  rw [g qs,e1,List.flatten_append];have a3:pz (qs.take n)=pz qa:=by
   unfold pz;rw [a1];exact List.map_congr_left fun p _=>add_zero p.os
  have b3:pz (qs.drop n)=qb.map (fun p=>p.os.map (yI n)):=b1;rw [a3,← g,b3]
  congr 1
  rw [g qb];unfold pz;rw [List.map_flatten,List.map_map]
  rfl
 ·rw [← a2,← b2,← List.sum_append,← List.map_append,List.take_append_drop]
theorem Qo {fs gs:List bC} {t t':Nat} {k f:Int} (h:DF fs t 0 0) (ht:jV (fs.map (·.1)) t) (hg:gs.Sublist fs) (ht':jV (gs.map (·.1)) t') (k0:k≠0) (hr:DF gs t' k f):False:=by
 obtain ⟨_,h2,_⟩ | ⟨_,_,h2,_⟩ | ⟨h1,h2,_⟩:=h
 ·cases h2
 ·cases h2
 ·have hl:=hg.length_le
  obtain ⟨r1,_⟩ | ⟨r1,r2,_⟩ | ⟨_,_,r3,_⟩:=hr
  ·omega
  ·obtain ⟨x,hx,hm⟩:=ht'.tw (by rw [List.length_map]; exact r2)
   have hnd:(fs.map (·.1)).Nodup:=by
    have:=ht.nd
    rw [h2,show fs.length=(fs.map (·.1)).length by rw [List.length_map],List.take_length] at this;exact this
   have XH:(gs.map (·.1)).Nodup:=hnd.sublist (hg.map _);rw [← List.take_append_drop t' (gs.map (·.1)),List.nodup_append] at XH;have hx2:x ∈ (gs.map (·.1)).drop t':=by
    refine List.mem_of_getElem? (i:=0) ?_
    rw [List.getElem?_drop];exact hx
   exact XH.2.2 x hm x hx2 rfl
  ·exact k0 r3
theorem EE {fs gs:List bC} {t t':Nat} {qs:List PV} {nds:List Br} (h:jR fs qs nds) (hr:DF fs t 0 0) (ht:jV (fs.map (·.1)) t) (hsub:gs.Sublist fs) (ht':jV (gs.map (·.1)) t') (d:Nat) (hg:∀ i f,gs[i]?=some f→fs[d+i]?=some f) {W W':World} {e:Ending} (hc:H7 gs t' jT oO W e W') :
  Below W.heap.size W W'∧∃ pu gp ps mds,mr W.heap.size gs oO pu gp ps mds W'∧e=.returned (.tuple #[.pointer (some ⟨pu,0,none⟩),.agg #[.int .i64 0,.int .i64 0,.int .i64 0]]):=by
 obtain ⟨hb,hc⟩:=hc;refine ⟨hb,?_⟩
 rcases hc with ⟨k,f,k0,hk,_⟩ | ⟨_,i,f,a,c,hf,_,he,_⟩ | ⟨_,pu,gp,ps,mds,hl,he⟩
 ·exact (Qo hr ht hsub ht' k0 hk).elim
 ·exfalso
  have hfd:=hg i f hf;have hlt:=(List.getElem?_eq_some_iff.1 hfd).1;have h1:qs[d+i]?=some (qs[d+i]'(by have:=h.len; omega)):=List.getElem?_eq_getElem _;have h2:nds[d+i]?=some (nds[d+i]'(by have:=h.len; have:=h.lenn; omega)):=List.getElem?_eq_getElem _;obtain ⟨f',first',hf',⟨y0',n',ts',hpf'⟩,_⟩:=h.pt (d+i) _ _ h1 h2;rw [hfd] at hf'
  cases hf'
  exact JY hpf'.ok he
 ·exact ⟨pu,gp,ps,mds,hl,he⟩
theorem Qz (v:Int) (n:Nat) (h0:0 < n) (h4:n≤4):∃ m:Nat,m < n∧(wrap64 (v.tmod n+n)).tmod n=(m:Int):=by
 have t1:=Int.tmod_lt_of_pos v (show (0:Int) < n by omega);have t2:-(n:Int) < v.tmod n:=Int.lt_tmod_of_pos v (show (0:Int) < n by omega);have e1:wrap64 (v.tmod n+n)=v.tmod n+n:=by unfold wrap64; omega
 rw [e1];have t3:=Int.tmod_lt_of_pos (v.tmod n+n) (show (0:Int) < n by omega);have t4:=Int.tmod_nonneg (n:Int) (show 0≤v.tmod n+n by omega);exact ⟨((v.tmod n+n).tmod n).toNat,by omega,by omega⟩
theorem OL {W:World} {p:Option Addr} {n c:Nat} {fs:List bC} (h:FIn W p n c fs) (d:Nat):FIn (W.drewN d) p n c fs:=by
 obtain ⟨h1,h2⟩:=h;exact ⟨h1,h2.imp id fun ⟨b,o,h3,h4,h5,h6⟩=>⟨b,o,h3,h4,h5,fun i f hi=>h6 i f hi⟩⟩
theorem OC {W:World} {b o n c m:Nat} {fs:List bC} (h:FIn W (some ⟨b,o,none⟩) n c fs) (hm:m≤n) (W':World) (hb:Below W.heap.size W W'):FIn W' (some ⟨b,o,none⟩) m c (fs.take m):=by
 obtain ⟨h1,h2⟩:=h;refine ⟨by rw [List.length_take]; omega,?_⟩
 rcases h2 with h0 | ⟨b',o',he,h3,h4,h5⟩
 ·exact .inl (by omega)
 ·simp only [Option.some.injEq,Addr.mk.injEq,and_true] at he
  obtain ⟨rfl,rfl⟩:=he
  rcases Nat.eq_zero_or_pos m with h0 | h0
  ·exact .inl h0
  refine .inr ⟨_,_,rfl,by omega,Nat.lt_of_lt_of_le h4 hb.size,fun i f hi=>?_⟩
  have hlt:=(List.getElem?_eq_some_iff.1 hi).1;rw [List.length_take] at hlt;rw [List.getElem?_take_of_lt (by omega)] at hi;obtain ⟨g1,g2⟩:=h5 i f hi;exact ⟨(hb.cell (p:=⟨b,_,none⟩) h4).trans g1,(hb.cell (p:=⟨b,_,none⟩) h4).trans g2⟩
theorem NE {W:World} {b o n c m:Nat} {fs:List bC} (h:FIn W (some ⟨b,o,none⟩) n c fs) (hm:m < n) (W':World) (hb:Below W.heap.size W W'):FIn W' (some ⟨b,o+m * 2,none⟩) (n - m) (c - m) (fs.drop m):=by
 obtain ⟨h1,h2⟩:=h;refine ⟨by rw [List.length_drop]; omega,?_⟩
 rcases h2 with h0 | ⟨b',o',he,h3,h4,h5⟩
 ·exact .inl (by omega)
 ·simp only [Option.some.injEq,Addr.mk.injEq,and_true] at he
  obtain ⟨rfl,rfl⟩:=he;refine .inr ⟨_,_,rfl,by omega,Nat.lt_of_lt_of_le h4 hb.size,fun i f hi=>?_⟩
  rw [List.getElem?_drop] at hi;obtain ⟨g1,g2⟩:=h5 (m+i) f hi;rw [show o+m * 2+i * 2=o+(m+i) * 2 by omega];exact ⟨(hb.cell (p:=⟨b,_,none⟩) h4).trans g1,(hb.cell (p:=⟨b,_,none⟩) h4).trans g2⟩
theorem rU {fs:List bC} {t:Nat} {W W':World} {e:Ending} (h:H7 fs t jT oO W e W'):∃ (q:Option Addr) (x1 x2 x3:Int),e=.returned (.tuple #[.pointer q,.agg #[.int .i64 x1,.int .i64 x2,.int .i64 x3]])∧(q=none∨DF fs t 0 0∧∃ pu gp qs nds,q=some ⟨pu,0,none⟩∧mr W.heap.size fs oO pu gp qs nds W'):=by
 rcases h.2 with ⟨k,f,_,_,he⟩ | ⟨_,i,f,a,c,_,_,_,_,he⟩ | ⟨hr,pu,gp,qs,nds,h1,he⟩
 ·exact ⟨_,_,_,_,he,.inl rfl⟩
 ·exact ⟨_,_,_,_,he,.inl rfl⟩
 ·exact ⟨_,_,_,_,he,.inr ⟨hr,_,_,_,_,rfl,h1⟩⟩
theorem vO {fs gs:List bC} (h:gs.Sublist fs):sumT gs≤sumT fs:=by
 induction h with
 | slnil=>exact Nat.le_refl _
 | cons a h ih=>simp only [sumT,List.map_cons,List.sum_cons] at *; omega
 | cons_cons a h ih=>simp only [sumT,List.map_cons,List.sum_cons] at *; omega
structure oP (K:Nat) (fs:List bC) (pu gp:Nat) (qs:List PV) (nds:List Br) (W:World):Prop where
 u:UAt W pu gp (qs.map PV.pc)
 pv:∀ q ∈ qs,sK W q
 pn:∀ q ∈ pns qs nds,q.pc.h=q.nd.h∧q.nd.Lies W∧q.nd.Few∧q.nd.flatB.length≤1000000
 len:qs.length=fs.length
 lenn:nds.length=qs.length
 tot:(bH qs).length≤sumT fs
 fil:∀ v ∈ bH qs,0≤v.file∧v.file < fs.length
theorem N7 {K:Nat} {fs:List bC} {pu gp:Nat} {qs:List PV} {nds:List Br} {W W':World} (h:mr K fs oO pu gp qs nds W) (hs:∀ f ∈ fs,f.1.size≤1500∧f.2.size≤1500) (hb:Below W.heap.size W W'):oP K fs pu gp qs nds W':=by
 refine ⟨h.u.step hb,fun q hq=>?_,fun q hq=>?_,h.len,h.lenn,h.qsF.total,fun v hv=>?_⟩
 ·obtain ⟨i,hi,rfl⟩:=List.getElem_of_mem hq
  obtain ⟨nd,hnd⟩:∃ nd,nds[i]?=some nd:=⟨_,List.getElem?_eq_getElem (by rw [h.lenn]; exact hi)⟩
  exact ((h.pt i _ nd (List.getElem?_eq_getElem hi) hnd).pv).step hb
 ·obtain ⟨⟨q',nd⟩,hm,rfl⟩:=List.mem_map.1 hq
  obtain ⟨i,hi,he⟩:=List.getElem_of_mem hm;rw [List.getElem_zip] at he;obtain ⟨rfl,rfl⟩:=Prod.mk.inj he;rw [List.length_zip] at hi;have hp:=h.pt i _ _ (List.getElem?_eq_getElem (by omega)) (List.getElem?_eq_getElem (by omega));obtain ⟨⟨y0,n,ts,Xr⟩,_⟩:=hp.good
  have:=(hs _ (List.mem_of_getElem? hp.file)).2
  obtain ⟨g1,g2⟩:=Xr.few (by omega);exact ⟨hp.hd,Br.Lies.step _ hp.lies hb,g1,g2⟩
 ·obtain ⟨i,hi,rfl⟩:=List.getElem_of_mem hv
  obtain ⟨k,q,j,hqk,hqj,hij⟩:=NF qs i _ (List.getElem?_eq_getElem hi);obtain ⟨P6,hfk,_⟩:=h.qsF.os k q hqk
  have:=P6.file _ (List.mem_of_getElem? hqj)
  have:=(List.getElem?_eq_some_iff.1 hfk).1
  omega
theorem oP.step {K:Nat} {fs:List bC} {pu gp:Nat} {qs:List PV} {nds:List Br} {W W':World} (h:oP K fs pu gp qs nds W) (hb:Below W.heap.size W W'):oP K fs pu gp qs nds W' :=
 ⟨h.u.step hb,fun q hq=>(h.pv q hq).step hb,fun q hq=>by obtain ⟨h1,h2,h3⟩:=h.pn q hq; exact ⟨h1,Br.Lies.step _ h2 hb,h3⟩,h.len,h.lenn,h.tot,h.fil⟩
theorem oP.occs {K:Nat} {fs:List bC} {pu gp:Nat} {qs:List PV} {nds:List Br} {W:World} (h:oP K fs pu gp qs nds W) (hs:sumT fs≤1500) (hl:fs.length≤4) :
  Calls prog 49 #[.pointer (some ⟨pu,0,none⟩)] W fun e W'=>∃ sp sc,e=.returned (.slice sp (bH qs).length sc)∧W'.ownsRow W.heap.size 41 5 (.slice sp (bH qs).length sc) (bH qs).length (gX (bH qs))∧Below W.heap.size W W':=by
 refine (O0 W pu gp qs h.u h.pv (by have:=h.tot; omega) (by have:=h.len; omega)).mono ?_
 rintro e W' ⟨v,rfl,hr,hb⟩;obtain ⟨sp,sc,rfl⟩:=I7 hr;exact ⟨sp,sc,rfl,hr,hb⟩
theorem oP.opens {K:Nat} {fs:List bC} {pu gp:Nat} {qs:List PV} {nds:List Br} {W:World} (h:oP K fs pu gp qs nds W) (hl:fs.length≤4) :
  Calls prog 44 #[.pointer (some ⟨pu,0,none⟩)] W fun e W'=>∃ q c,e=.returned (.slice q (nds.map eX).sum c)∧Below W.heap.size W W':=by
 have hlen:(pns qs nds).length=qs.length:=by
  unfold pns;rw [List.length_map,List.length_zip,h.lenn,Nat.min_self]
 refine (JE W pu gp (pns qs nds) (by rw [Vo qs nds h.lenn]; exact h.u) h.pn (by have:=h.len; omega)).mono ?_
 rintro e W' ⟨q,n,c,os,rfl,_,hn,_,ht,hb⟩;have h1:=congrArg List.length ht;rw [List.length_map,JM,KE qs nds h.lenn] at h1;refine ⟨q,c,?_,hb⟩
 rw [hn,h1]
theorem Ro {K:Nat} {fs:List bC} {pu gp:Nat} {qs:List PV} {nds:List Br} {W:World} (h:oP K fs pu gp qs nds W) (hl:fs.length≤4):(nds.map eX).sum≤4000000:=by
 have h1:∀ l:List Br,(∀ y ∈ l,eX y≤1000000)→(l.map eX).sum≤l.length * 1000000:=by
  intro l
  induction l with
  | nil=>intro _; simp
  | cons x r ih=>intro hx; have:=ih fun y hy=>hx y (by simp [hy]); have:=hx x (by simp); simp only [List.map_cons,List.sum_cons,List.length_cons]; omega
 have h2:=h1 nds fun y hy=>by
  obtain ⟨i,hi,rfl⟩:=List.getElem_of_mem hy;have hq:i < qs.length:=by rw [← h.lenn]; exact hi
  have hm:(⟨qs[i].pc,nds[i]⟩:PN) ∈ pns qs nds:=by
   unfold pns;refine List.mem_map.2 ⟨(qs[i],nds[i]),?_,rfl⟩
   refine List.mem_iff_getElem.2 ⟨i,by rw [List.length_zip]; omega,by rw [List.getElem_zip]⟩
  have:=(h.pn _ hm).2.2.2
  dsimp only at this
  exact Nat.le_trans (List.length_filter_le _ _) this
 have:=h.len
 have:=h.lenn
 omega
theorem CW (x:Int) (h0:-9223372036854775808≤x) (h1:x≤9223372036854775807):wrap64 x=x:=by unfold wrap64; omega
theorem abv (w:World) (a b c d:Int) (e:Bool):(Op.equalIn 10000 41 (.agg #[.int .i64 a,.int .i64 b,.int .i64 c,.int .i64 d,.bool e]) (.agg #[.int .i64 a,.int .i64 b,.int .i64 c,.int .i64 d,.bool e])).run prog w=.ok true w:=by
 rw [run_equalIn_agg w 9999 41 _ _ (by kernel_rfl) (by kernel_rfl)];unfold Program.fieldsOf;rw [underlying41]
 simp [Op.eqFields,go_sem]
set_option maxHeartbeats 40000000 in
theorem IC (fs:List bC) (p:Option Addr) (n c:Nat) (v:Int) (W:World) (hn63:n≤9223372036854775807) (h:FIn W p n c fs) (hk:Kw W) :
  Calls prog 15 #[.slice p n c,.int .i64 v] W fun e w'=>e=.returned (.bool true)∧Below W.heap.size W w':=by
 have HF:=hid (Kq fs p n c W h hn63);have HI:=hid h;have HK:=hid hk;have HA:=hid (fun w=>CO w);have HN:Hid (n=fs.length):=hid h.1;clear h hk hn63
 go_enter func15,ntmps15
 go_wp2_with fail
 refine HF.out.mono ?_
 rintro e w1 ⟨b,rfl,hfew,d,rfl⟩;have hb1:Below W.heap.size W (W.drewN d):=below_drewN (Below.refl _ _) d;have HB1:=hid hb1;have HFW:=hid hfew;clear hb1 hfew HF
 cases b
 ·have H8:=hid (HA.out (W.drewN d) (HK.out.step HB1.out))
  go_wp2_with fail
  refine H8.out.mono ?_
  rintro e w2 ⟨rfl,hb2⟩;have HB2:=hid (HB1.out.trans (hb2.mono HB1.out.size));clear hb2 H8
  go_wp2_with fail
  go_ret
  exact ⟨rfl,HB2.out⟩
 have uU:Hid (Ry fs):=hid (HFW.out rfl)
 rcases Nat.eq_zero_or_pos n with h0 | h0
 ·subst h0
  have H8:=hid (HA.out (W.drewN d) (HK.out.step HB1.out))
  go_wp2_with fail
  refine H8.out.mono ?_
  rintro e w2 ⟨rfl,hb2⟩;have HB2:=hid (HB1.out.trans (hb2.mono HB1.out.size));clear hb2 H8
  go_wp2_with fail
  go_ret
  exact ⟨rfl,HB2.out⟩
 have hn4:n≤4:=by have:=uU.out.len; have:=HN.out; omega
 have hz1:¬ (n:Int)=0:=by omega
 have hz2:((n:Int) == 0)=false:=by simp; omega
 obtain ⟨m,hm,hme⟩:=Qz v n h0 hn4;obtain ⟨hnl,hp0 | ⟨fb,fo,rfl,hc,hfb,hat⟩⟩:=id HI.out
 ·omega
 clear hnl hat
 have HI1:=hid (OL HI.out d);obtain ⟨t,ht⟩:=wE (fs.map (·.1));obtain ⟨ta,hta⟩:=wE ((fs.take m).map (·.1));obtain ⟨tb,htb⟩:=wE ((fs.drop m).map (·.1));have HT:=hid ht;have HTA:=hid hta;have HTB:=hid htb;have Xq:=hid (sV fs t _ n c (W.drewN d) (HK.out.step HB1.out) HI1.out (by omega) (by have:=uU.out.sum; omega) (fun f hf=>by have:=uU.out.each f hf; omega) (fun f hf=>by have:=uU.out.each f hf; omega) ht);have XI:=hid (fun W2 (hb:Below W.heap.size W W2)=>sV (fs.take m) ta _ m c W2 (HK.out.step hb) (OC HI.out (by omega) W2 hb) (by omega) (by have:=uU.out.sum; have:=vO (List.take_sublist m fs); omega) (fun f hf=>by have:=uU.out.each f ((List.take_sublist m fs).subset hf); omega) (fun f hf=>by have:=uU.out.each f ((List.take_sublist m fs).subset hf); omega) hta);have XJ:=hid (fun W2 (hb:Below W.heap.size W W2)=>sV (fs.drop m) tb _ (n - m) (c - m) W2 (HK.out.step hb) (NE HI.out hm W2 hb) (by omega) (by have:=uU.out.sum; have:=vO (List.drop_sublist m fs); omega) (fun f hf=>by have:=uU.out.each f ((List.drop_sublist m fs).subset hf); omega) (fun f hf=>by have:=uU.out.each f ((List.drop_sublist m fs).subset hf); omega) htb);clear ht hta htb HFW;generalize W.drewN d=w1 at *
 go_wp2_with fail
 refine Xq.out.mono ?_
 rintro e w2 hc1;clear hme hz1 hz2;generalize (wrap64 (v.tmod n+n))=va;generalize v.tmod n=vb;obtain ⟨q,x1,x2,x3,rfl,hq⟩:=rU hc1;obtain ⟨w3,hw3⟩:∃ w3,w3=w2.alloc (.cells #[.int .i64 x1,.int .i64 x2,.int .i64 x3] 65):=⟨_,rfl⟩
 have hb2:Below W.heap.size W w2:=HB1.out.trans (hc1.1.mono HB1.out.size);have hb3:Below W.heap.size W w3:=by rw [hw3]; exact hb2.alloc (by have:=hb2.size; omega) _
 have XK:Hid (Below w2.heap.size w2 w3):=hid (by rw [hw3]; exact (Below.refl _ _).alloc (Nat.le_refl _) _);have HB2:=hid hb2;have HB3:=hid hb3;have HW3:=hid hw3;have HQ:=hid hq;have HLA:=hid (XI.out w3 hb3);clear hc1 hb2 hb3 hw3 hq Xq XI;have t1:¬ (m:Int) < 0:=by omega
 have t2:¬ (c:Int) < (m:Int):=by omega
 have t2n:¬ c < m:=by omega
 have t3:¬ (n:Int) < (m:Int):=by omega
 have t3n:¬ n < m:=by omega
 have t4:m≤c:=by omega
 have t5:m≤n:=by omega
 go_wp2_with fail
 rw [← HW3.out];refine HLA.out.mono ?_
 rintro e w4 hc2;obtain ⟨qa,y1,y2,y3,rfl,_⟩:=rU hc2;obtain ⟨w5,hw5⟩:∃ w5,w5=w4.alloc (.cells #[.int .i64 y1,.int .i64 y2,.int .i64 y3] 65):=⟨_,rfl⟩
 have hb4:Below W.heap.size W w4:=HB3.out.trans (hc2.1.mono HB3.out.size);have hb5:Below W.heap.size W w5:=by rw [hw5]; exact hb4.alloc (by have:=hb4.size; omega) _
 have XL:Hid (Below w3.heap.size w3 w4):=hid hc2.1;have P8:Hid (Below w4.heap.size w4 w5):=hid (by rw [hw5]; exact (Below.refl _ _).alloc (Nat.le_refl _) _);have nJ:=hid hb5;have SX:=hid hw5;have HCA:=hid hc2;have HLB:=hid (XJ.out w5 hb5);clear hc2 hb4 hb5 hw5 XJ HLA;have u3:(m:Int)≤(n:Int):=by omega
 have u4:(n:Int)≤(c:Int):=by omega
 have u5:(n:Int) - (m:Int)=((n - m:Nat):Int):=by omega
 have u6:(c:Int) - (m:Int)=((c - m:Nat):Int):=by omega
 have u7:¬ c < n:=by omega
 go_wp2_with fail
 rw [← SX.out];refine HLB.out.mono ?_
 rintro e w6 hc3;obtain ⟨qb,z1,z2,z3,rfl,_⟩:=rU hc3;obtain ⟨w7,hw7⟩:∃ w7,w7=w6.alloc (.cells #[.int .i64 z1,.int .i64 z2,.int .i64 z3] 65):=⟨_,rfl⟩
 have hb6:Below W.heap.size W w6:=nJ.out.trans (hc3.1.mono nJ.out.size);have hb7:Below W.heap.size W w7:=by rw [hw7]; exact hb6.alloc (by have:=hb6.size; omega) _
 have P9:Hid (Below w5.heap.size w5 w6):=hid hc3.1;have UD:Hid (Below w6.heap.size w6 w7):=hid (by rw [hw7]; exact (Below.refl _ _).alloc (Nat.le_refl _) _);have SK:=hid hb7;have VE:=hid hw7;have HCB:=hid hc3;clear hc3 hb6 hb7 hw7 HLB t1 t2 t2n t3 t3n t4 t5 u3 u4 u5 u6 u7
 rcases HQ.out with rfl | ⟨hrk,pu,gp,qs,nds,rfl,hld⟩
 ·have H8:=hid (HA.out w7 (HK.out.step SK.out))
  go_wp2_with fail
  rw [← VE.out];refine H8.out.mono ?_
  rintro e w8 ⟨rfl,hb8⟩;have SL:=hid (SK.out.trans (hb8.mono SK.out.size));clear hb8 H8
  go_wp2_with fail
  go_ret
  exact ⟨rfl,SL.out⟩
 have hpt:=hld.parts;obtain ⟨_,pa,ga,qas,nas,hla,hea⟩:=EE hpt hrk HT.out (List.take_sublist m fs) HTA.out 0 (fun i f hi=>by
  rw [Nat.zero_add];have hlt:=(List.getElem?_eq_some_iff.1 hi).1;rw [List.length_take] at hlt;rw [List.getElem?_take_of_lt (by omega)] at hi;exact hi) HCA.out
 obtain ⟨_,pb,gb,qbs,nbs,hlb,heb⟩:=EE hpt hrk HT.out (List.drop_sublist m fs) HTB.out m (fun i f hi=>by rw [List.getElem?_drop] at hi; exact hi) HCB.out;simp only [Ending.returned.injEq,Value.tuple.injEq,Array.mk.injEq,List.cons.injEq,Value.pointer.injEq] at hea heb;obtain ⟨rfl,aax⟩:=hea;obtain ⟨rfl,aay⟩:=heb;clear aax aay;have Tq:=jR.joined (n:=m) (by have:=HN.out; omega) hpt hla.parts hlb.parts (fun f hf=>by have:=uU.out.each f hf; omega);have HJ:=hid Tq;clear Tq hpt hrk HCA HCB HQ HT HTA HTB;have XM:Below w2.heap.size w2 w7:=XK.out.trans ((XL.out.trans ((P8.out.trans ((P9.out.trans (UD.out.mono P9.out.size)).mono P8.out.size)).mono XL.out.size)).mono XK.out.size);have XN:Below w4.heap.size w4 w7:=P8.out.trans ((P9.out.trans (UD.out.mono P9.out.size)).mono P8.out.size);have YP:Hid (oP w1.heap.size fs pu gp qs nds w7):=hid (N7 hld uU.out.each XM);have HU2:Hid (oP w3.heap.size (fs.take m) pa ga qas nas w7):=hid (N7 hla (fun f hf=>uU.out.each f ((List.take_sublist m fs).subset hf)) XN);have HU3:Hid (oP w5.heap.size (fs.drop m) pb gb qbs nbs w7):=hid (N7 hlb (fun f hf=>uU.out.each f ((List.drop_sublist m fs).subset hf)) UD.out);clear hld hla hlb XM XN;have TU:Hid (sumT (fs.take m)≤1500∧(fs.take m).length≤4):=hid ⟨Nat.le_trans (vO (List.take_sublist m fs)) uU.out.sum,Nat.le_trans (List.take_sublist m fs).length_le uU.out.len⟩;have Pn:Hid (sumT (fs.drop m)≤1500∧(fs.drop m).length≤4):=hid ⟨Nat.le_trans (vO (List.drop_sublist m fs)) uU.out.sum,Nat.le_trans (List.drop_sublist m fs).length_le uU.out.len⟩;have KR:=hid (YP.out.occs uU.out.sum uU.out.len);obtain ⟨N,hNe⟩:∃ N,N=(bH qs).length:=⟨_,rfl⟩
 obtain ⟨A,hAe⟩:∃ A,A=(bH qas).length:=⟨_,rfl⟩
 obtain ⟨B,hBe⟩:∃ B,B=(bH qbs).length:=⟨_,rfl⟩
 have XO:N=A+B:=by rw [hNe,hAe,hBe,HJ.out.1,List.length_append,List.length_map]
 have LY:N≤1500:=by have:=YP.out.tot; have:=uU.out.sum; omega
 have HNE:=hid hNe;have VA:=hid hAe;have KP:=hid hBe;have LZ:=hid XO;have UE:=hid LY;clear hNe hAe hBe XO LY
 go_wp2_with fail
 rw [← VE.out];refine KR.out.mono ?_
 rintro e w8 ⟨sp1,sc1,rfl,hr1,hb8⟩;rw [← HNE.out] at hr1 ⊢;have HR1:=hid hr1;have XP:=hid hb8;have SL:=hid (SK.out.trans (hb8.mono SK.out.size));have qG:=hid ((HU2.out.step hb8).occs TU.out.1 TU.out.2);clear hr1 hb8 KR
 go_wp2_with fail
 refine qG.out.mono ?_
 rintro e w9 ⟨sp2,sc2,rfl,hr2,Pg⟩;rw [← VA.out] at hr2 ⊢;have HR2:=hid hr2;have XQ:=hid Pg;have Vz:=hid (SL.out.trans (Pg.mono SL.out.size));have UF:=hid (XP.out.trans (Pg.mono XP.out.size));have A7:=hid ((HU3.out.step UF.out).occs Pn.out.1 Pn.out.2);clear hr2 Pg qG
 go_wp2_with fail
 refine A7.out.mono ?_
 rintro e wa ⟨sp3,sc3,rfl,hr3,hba⟩;rw [← KP.out] at hr3 ⊢;have HR3:=hid hr3;have XR:=hid hba;have HBa:=hid (Vz.out.trans (hba.mono Vz.out.size));have XT:=hid (UF.out.trans (hba.mono UF.out.size));have XU:=hid (XQ.out.trans (hba.mono XQ.out.size));clear hr3 hba A7;have hab:(N:Int)=(A:Int)+(B:Int):=by have:=LZ.out; omega
 have hne:((N:Int) != (A:Int)+(B:Int))=false:=by rw [hab]; simp
 have hww:wrap64 ((A:Int)+(B:Int))=(A:Int)+(B:Int):=by have:=UE.out; unfold wrap64; omega
 go_wp2_with fail
 clear hne hww hab
 go_loopw [80] (fun iv wr=>∃ i:Nat,i≤N∧iv=.int .i64 i∧Hid (Below wa.heap.size wa wr)) (fun iv _=>N - (intOf iv).toNat)
 case atStart=>exact ⟨0,by omega,rfl,hid (Below.refl _ _)⟩
 case round =>
  obtain ⟨i,hi,rfl,Pj⟩:=hrel;have Bg:=Pj.out.size
  by_cases hlt:i < N
  ·obtain ⟨g1,cap1,hv,hg1,hg2,hg3,hg4⟩:=iG HR1.out (by omega)
   obtain ⟨rfl,rfl⟩:sp1=some ⟨g1,0,none⟩∧sc1=cap1:=by
    simp only [Value.slice.injEq,true_and] at hv;exact hv
   obtain ⟨u,hu⟩:∃ u,(bH qs)[i]?=some u:=⟨_,List.getElem?_eq_getElem (by rw [← HNE.out]; exact hlt)⟩
   have aaD:g1 < wa.heap.size:=Nat.lt_of_lt_of_le hg2 XU.out.size;have hoc:=(uJ HR1.out i u hu).ext (fun r _=>(Pj.out.cell (p:=⟨g1,i * 5+r,none⟩) aaD).trans (XU.out.cell (p:=⟨g1,i * 5+r,none⟩) hg2));rw [HJ.out.1] at hu;have HU:=hid hu;obtain ⟨fl,at_,end_,sp,dc⟩:=u;obtain ⟨c0,c1,c2,c3,c4⟩:=hoc
   simp only at c0 c1 c2 c3 c4
   have r1:(0:Int)≤(i:Int):=by omega
   have r2:(i:Int) < (N:Int):=by omega
   have r2s:(i:Int) < (A:Int)+(B:Int):=by have:=LZ.out; omega
   obtain ⟨W6,Be⟩:∃ W6,W6=wr.alloc (.cells #[.int .i64 fl,.int .i64 at_,.int .i64 end_,.int .i64 sp,.bool dc] 41):=⟨_,rfl⟩
   have YO:=hid Be;clear hu hv hg4 hg3;have KO:wr.heap.size < W6.heap.size:=by rw [Be]; simp
   have hb6:Below wr.heap.size wr W6:=by rw [Be]; exact (Below.refl _ _).alloc (Nat.le_refl _) _
   have hbc:=cell_of_heap (heap_alloc_new wr (.cells #[.int .i64 fl,.int .i64 at_,.int .i64 end_,.int .i64 sp,.bool dc] 41));rw [← Be] at hbc;have b0:W6.cell? ⟨wr.heap.size,0,none⟩=some (.int .i64 fl):=hbc 0;have b1:W6.cell? ⟨wr.heap.size,1,none⟩=some (.int .i64 at_):=hbc 1;have b2:W6.cell? ⟨wr.heap.size,2,none⟩=some (.int .i64 end_):=hbc 2;have b3:W6.cell? ⟨wr.heap.size,3,none⟩=some (.int .i64 sp):=hbc 3;have b4:W6.cell? ⟨wr.heap.size,4,none⟩=some (.bool dc):=hbc 4;have Bd:Hid (Below wa.heap.size wa W6):=hid (Pj.out.trans (hb6.mono Bg));have aea:=hid hb6;have heq:=abv;clear hbc hb6 Be
   by_cases hA:i < A
   ·have r3:(i:Int) < (A:Int):=by omega
    obtain ⟨g2,cap2,hv,hg1',hg2',hg3',hg4'⟩:=iG HR2.out (by omega);obtain ⟨rfl,rfl⟩:sp2=some ⟨g2,0,none⟩∧sc2=cap2:=by
     simp only [Value.slice.injEq,true_and] at hv;exact hv
    have hu2:(bH qas)[i]?=some ⟨fl,at_,end_,sp,dc⟩:=by
     have:=HU.out
     rw [List.getElem?_append_left (by rw [← VA.out]; exact hA)] at this;exact this
    have aaE:g2 < wa.heap.size:=Nat.lt_of_lt_of_le hg2' XR.out.size;have aaF:=(uJ HR2.out i _ hu2).ext (fun r _=>(Bd.out.cell (p:=⟨g2,i * 5+r,none⟩) aaE).trans (XR.out.cell (p:=⟨g2,i * 5+r,none⟩) hg2'));obtain ⟨d0,d1,d2,d3,d4⟩:=aaF
    simp only at d0 d1 d2 d3 d4
    clear hv hg4' hg3' hu2
    go_upto_region 18 with (fail)
    rw [← YO.out]
    go_quiet (fail)
    go_wp2_with fail
    clear heq;have YQ:=UE.out;have XV:i+1≤1500:=Nat.le_trans hlt YQ;have hw1:wrap64 ((i:Int)+1)=((i+1:Nat):Int):=CW ((i+1:Nat):Int) (Int.le_trans (by decide) (Int.natCast_nonneg _)) (Int.le_trans (Int.ofNat_le.2 XV) (by decide));refine ⟨⟨i+1,hlt,by rw [hw1],hid (below_drewN Bd.out _)⟩,?_⟩
    rw [hw1]
    show N - (i+1) < N - i
    exact Nat.sub_lt_sub_left hlt (Nat.lt_succ_self i)
   ·obtain ⟨j,hj⟩:∃ j,i=A+j:=⟨i - A,by omega⟩
    have hjB:j < B:=by have:=LZ.out; omega
    have r3:¬ (i:Int) < (A:Int):=by omega
    obtain ⟨g3,cap3,hv,hg1',hg2',hg3',hg4'⟩:=iG HR3.out (by omega);obtain ⟨rfl,rfl⟩:sp3=some ⟨g3,0,none⟩∧sc3=cap3:=by
     simp only [Value.slice.injEq,true_and] at hv;exact hv
    obtain ⟨x,hx⟩:∃ x,(bH qbs)[j]?=some x:=⟨_,List.getElem?_eq_getElem (by rw [← KP.out]; exact hjB)⟩
    have hux:yI m x=⟨fl,at_,end_,sp,dc⟩:=by
     have h1:=HU.out;rw [List.getElem?_append_right (by rw [← VA.out]; omega),← VA.out,show i - A=j by omega,List.getElem?_map,hx] at h1;exact Option.some.inj h1
    have hfil:=HU3.out.fil x (List.mem_of_getElem? hx);have hdl:=Pn.out.2;have aaG:=(uJ HR3.out j _ hx).ext (fun r _=>Bd.out.cell (p:=⟨g3,j * 5+r,none⟩) hg2');obtain ⟨xf,xa,xe,xs,xd⟩:=x;simp only [yI,fM.mk.injEq] at hux hfil;obtain ⟨rfl,rfl,rfl,rfl,rfl⟩:=hux;obtain ⟨d0,d1,d2,d3,d4⟩:=aaG
    simp only at d0 d1 d2 d3 d4
    have hs1:(i:Int) - (A:Int)=(j:Int):=by omega
    have YQ:=UE.out;have hs2:wrap64 (i:Int)=(i:Int):=CW _ (by omega) (by omega);have aaH:j≤1500:=Nat.le_trans (Nat.le_of_lt hjB) (Nat.le_trans (LZ.out ▸ Nat.le_add_left B A) YQ);have hs3:wrap64 ((i:Int) - (A:Int))=(j:Int):=(congrArg wrap64 hs1).trans (CW (j:Int) (Int.le_trans (by decide) (Int.natCast_nonneg j)) (Int.le_trans (Int.ofNat_le.2 aaH) (by decide)));have hs4:wrap64 (xf+(m:Int))=xf+(m:Int):=CW _ (by omega) (by omega);have r4:(0:Int)≤(j:Int):=by omega
    have r5:(j:Int) < (B:Int):=by omega
    have HJI:=hid hj;clear hv hg4' hg3' hx hfil hdl hj
    go_upto_region 20 with (fail)
    rw [← YO.out]
    go_upto_region 22 with (fail)
    obtain ⟨W8,hW8⟩:∃ W8,W8=W6.alloc (.cells #[.int .i64 (xf+(m:Int)),.int .i64 xa,.int .i64 xe,.int .i64 xs,.bool xd] 41):=⟨_,rfl⟩
    have hb8:Below W6.heap.size W6 W8:=by rw [hW8]; exact (Below.refl _ _).alloc (Nat.le_refl _) _
    have Fb:=cell_of_heap (heap_alloc_new W6 (.cells #[.int .i64 (xf+(m:Int)),.int .i64 xa,.int .i64 xe,.int .i64 xs,.bool xd] 41));rw [← hW8] at Fb ⊢;have n0:W8.cell? ⟨W6.heap.size,0,none⟩=some (.int .i64 (xf+(m:Int))):=Fb 0;have n1:W8.cell? ⟨W6.heap.size,1,none⟩=some (.int .i64 xa):=Fb 1;have n2:W8.cell? ⟨W6.heap.size,2,none⟩=some (.int .i64 xe):=Fb 2;have n3:W8.cell? ⟨W6.heap.size,3,none⟩=some (.int .i64 xs):=Fb 3;have n4:W8.cell? ⟨W6.heap.size,4,none⟩=some (.bool xd):=Fb 4;have m0:W8.cell? ⟨wr.heap.size,0,none⟩=some (.int .i64 (xf+(m:Int))):=(hb8.cell (p:=⟨wr.heap.size,0,none⟩) KO).trans b0;have m1:W8.cell? ⟨wr.heap.size,1,none⟩=some (.int .i64 xa):=(hb8.cell (p:=⟨wr.heap.size,1,none⟩) KO).trans b1;have m2:W8.cell? ⟨wr.heap.size,2,none⟩=some (.int .i64 xe):=(hb8.cell (p:=⟨wr.heap.size,2,none⟩) KO).trans b2;have m3:W8.cell? ⟨wr.heap.size,3,none⟩=some (.int .i64 xs):=(hb8.cell (p:=⟨wr.heap.size,3,none⟩) KO).trans b3;have m4:W8.cell? ⟨wr.heap.size,4,none⟩=some (.bool xd):=(hb8.cell (p:=⟨wr.heap.size,4,none⟩) KO).trans b4;have aaJ:Hid (Below wa.heap.size wa W8):=hid (Bd.out.trans (hb8.mono Bd.out.size));clear Fb hb8 hW8 b0 b1 b2 b3 b4 d0 d1 d2 d3 d4 c0 c1 c2 c3 c4 hs1 hs2 hs3 hs4
    go_wp2_with fail
    clear heq;have XV:i+1≤1500:=Nat.le_trans hlt YQ;refine ⟨⟨i+1,hlt,congrArg (Value.int .i64) (Int.natCast_succ i).symm,aaJ⟩,?_⟩
    show N - (i+1) < N - i
    exact Nat.sub_lt_sub_left hlt (Nat.lt_succ_self i)
  ·have hlt2:¬ (i:Int) < (A:Int)+(B:Int):=by have:=LZ.out; omega
   have VB:=hid (HBa.out.trans (Pj.out.mono HBa.out.size));have UG:=hid (XT.out.trans (Pj.out.mono XT.out.size));have HP1:=hid ((YP.out.step UG.out).opens uU.out.len);obtain ⟨SN,hSN⟩:∃ x,x=(nds.map eX).sum:=⟨_,rfl⟩
   obtain ⟨SA,hSA⟩:∃ x,x=(nas.map eX).sum:=⟨_,rfl⟩
   obtain ⟨SB,hSB⟩:∃ x,x=(nbs.map eX).sum:=⟨_,rfl⟩
   have HSN:=hid hSN;have HSA':=hid hSA;have HSB':=hid hSB;have HJS:Hid (SN=SA+SB):=hid (by rw [hSN,hSA,hSB]; exact HJ.out.2);clear hSN hSA hSB
   go_wp2_with fail
   refine HP1.out.mono ?_
   rintro e wb ⟨o1,k1,rfl,hbb⟩;rw [← HSN.out];have HBb:=hid (VB.out.trans (hbb.mono VB.out.size));have UH:=hid (UG.out.trans (hbb.mono UG.out.size));have HP2:=hid ((HU2.out.step UH.out).opens TU.out.2);clear hbb HP1
   go_wp2_with fail
   refine HP2.out.mono ?_
   rintro e wc ⟨o2,k2,rfl,hbc⟩;rw [← HSA'.out];have HBc:=hid (HBb.out.trans (hbc.mono HBb.out.size));have aaN:=hid (UH.out.trans (hbc.mono UH.out.size));have HP3:=hid ((HU3.out.step aaN.out).opens Pn.out.2);clear hbc HP2
   go_wp2_with fail
   refine HP3.out.mono ?_
   rintro e wd ⟨o3,k3,rfl,hbd⟩;rw [← HSB'.out];have KN:=hid (HBc.out.trans (hbd.mono HBc.out.size));have H8:=hid (HA.out wd (HK.out.step KN.out));clear hbd HP3;have XW:SN≤4000000:=by
    have h1:=YP.out;have h2:=uU.out.len;rw [HSN.out];exact Ro h1 h2
   have XX:(SN:Int)=(SA:Int)+(SB:Int):=by have:=HJS.out; omega
   have hwS:wrap64 ((SA:Int)+(SB:Int))=(SN:Int):=(congrArg wrap64 XX.symm).trans (CW (SN:Int) (Int.le_trans (by decide) (Int.natCast_nonneg _)) (Int.le_trans (Int.ofNat_le.2 XW) (by decide)));clear XX XW
   go_wp2_with fail
   refine H8.out.mono ?_
   rintro e we ⟨rfl,hbe⟩;have KP:=hid (KN.out.trans (hbe.mono KN.out.size));clear hbe H8
   go_wp2_with fail
   go_ret
   exact ⟨rfl,KP.out⟩
theorem Fg (p:Option Addr) (n c:Nat) (fs:List bC) (v:Int) (w:World) {P:Prop} (hn:n≤9223372036854775807) (h:FIn w p n c fs) (_:P) (hk:Kw w) :
  Calls prog 15 #[.slice p n c,.int .i64 v] w fun e w'=>e=.returned (.bool true)∧Below w.heap.size w w':=IC fs p n c v w hn h hk
end Go.Proofs.YtmpmfamiegpmgaaGreatDoor
