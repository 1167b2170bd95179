/-
  May, Alike, Space, and the document's.; Tokens: their order, and what a token that is a name says.; What the law AstOnce finds in a file that is read: said.; What the law AstOnce finds in a file that is read.
-/
import Derived.Test.YtmpmfamiegpmgaaGreatDoorGA
import Derived.Test.YtmpmfamiegpmgaaGreatDoorGY
namespace Go.Proofs.YtmpmfamiegpmgaaGreatDoor
open Go.RowKit
set_option linter.unusedVariables false
set_option linter.unusedSimpArgs false
def Gh (p:Int) (s:ByteArray):Bool:=bif p == 1 then (eU s == 6 || eU s == 9) else bif p == 3 then eU s == 6 else (decide (2≤p) && decide (p≤6) && eU s == 7)
set_option maxRecDepth 20000
theorem qW (p:List UInt8) (h:dh p=6∨dh p=7∨dh p=9):eU (bsOf p)=dh p:=by
 cases p with
 | nil=>simp [dh] at h
 | cons c r =>
  simp only [dh] at h ⊢
  cases hd:jC c
  ·rw [hd] at h
   simp only [cond_false] at h ⊢
   cases hk:(eU (bsOf (c :: r)) == 0)
   ·simp
   ·rw [hk] at h; simp at h
  ·rw [hd] at h
   simp only [cond_true] at h
   cases hp:(aV (dE jC) () (c :: r) == (c :: r).length)
   ·rw [hp] at h; simp at h
   ·rw [hp] at h; simp at h
theorem Q9 (l:List UInt8) (h:(dw l).1=6∨(dw l).1=7∨(dw l).1=9):eU (bsOf (l.take (dw l).2))=(dw l).1:=by
 cases l with
 | nil=>simp [dw] at h
 | cons c r =>
  simp only [dw] at h ⊢
  cases h1:gQ c
  ·rw [h1] at h
   simp only [cond_false] at h ⊢
   cases h2:eqB c 34
   ·rw [h2] at h
    simp only [cond_false] at h ⊢
    cases h3:(eqB c 40 && headB r 42)
    ·rw [h3] at h
     simp only [cond_false] at h ⊢
     cases h4:dM c
     ·rw [h4] at h
      simp only [cond_false] at h ⊢
      cases h5:dP c
      ·rw [h5] at h
       simp only [cond_false] at h ⊢;exact qW _ h
      ·rw [h5] at h
       simp only [cond_true] at h ⊢;exact qW _ h
     ·rw [h4] at h
      simp only [cond_true] at h ⊢;exact qW _ h
    ·rw [h3] at h
     simp only [cond_true,jB] at h
     cases h6:(aV nF (0,0) (c :: r) == (c :: r).length) <;> rw [h6] at h <;> simp at h
   ·rw [h2] at h
    simp only [cond_true,iD] at h
    cases h6:headB (r.drop (aV qF false r)) 34 <;> rw [h6] at h <;> simp at h
  ·rw [h1] at h
   simp at h
theorem Jm:∀ (n a:Nat) (l:List UInt8),∀ t ∈ dK n a l,t.k=6∨t.k=7∨t.k=9→eU (bsOf ((l.drop (t.a - a)).take (t.e - t.a)))=t.k:=by
 intro n
 induction n with
 | zero=>intro a l t h; simp [dK] at h
 | succ n ih =>
  intro a l t h hk
  cases l with
  | nil=>simp [dK] at h
  | cons c r =>
   simp only [dK,List.isEmpty_cons,cond_false,List.mem_cons] at h
   rcases h with rfl | h
   ·simp only [Nat.sub_self,List.drop_zero,Nat.add_sub_cancel_left] at hk ⊢
    exact Q9 _ hk
   ·have:=ih _ _ t h hk
    rw [List.drop_drop] at this;have hin:=(tH n (a+(dw (c :: r)).2) ((c :: r).drop (dw (c :: r)).2)).1 t h;rw [show (dw (c :: r)).2+(t.a - (a+(dw (c :: r)).2))=t.a - a by omega] at this;exact this
theorem IW:∀ (n a:Nat) (l:List UInt8),(dK n a l).Pairwise fun t u=>t.e≤u.a:=by
 intro n
 induction n with
 | zero=>intro a l; simp [dK]
 | succ n ih =>
  intro a l
  cases l with
  | nil=>simp [dK]
  | cons c r =>
   simp only [dK,List.isEmpty_cons,cond_false];exact List.pairwise_cons.2 ⟨fun u hu=>((tH n _ _).1 u hu).1,ih _ _⟩
theorem zF (ask:Int→Bool) (l:List Tok):(gY ask l).Sublist l:=by
 induction l with
 | nil=>exact List.Sublist.refl _
 | cons t r ih =>
  simp only [gY]
  cases ask t.k
  ·exact ih.cons t
  ·exact ih.cons_cons t
theorem vY (s:ByteArray):(aO s).Pairwise fun t u=>t.e≤u.a:=by
 rw [jL];refine List.pairwise_append.2 ⟨(IW _ _ _).sublist (zF _ _),List.pairwise_singleton _ _,fun t ht u hu=>?_⟩
 rw [List.mem_singleton.1 hu];exact ((pW s).1 t ht).2.1
theorem F6 (s:ByteArray) (t:Tok) (ht:t ∈ aO s) (hk:t.k=6∨t.k=7∨t.k=9):eU (s.extract t.a t.e)=t.k∧t.a < t.e∧t.e≤s.size:=by
 rw [jL] at ht
 rcases List.mem_append.1 ht with h | h
 ·have hin:=(pW s).1 t h
  have:=Jm _ _ _ t ((zF _ _).subset h) hk
  refine ⟨?_,hin.1,hin.2.1⟩
  rw [← this]
  congr 1
  apply ByteArray.ext
  apply Array.ext'
  rw [ext_list,Nat.sub_zero];simp only [bsOf];rw [List.drop_take]
 ·rw [List.mem_singleton.1 h] at hk
  simp at hk
structure XG (s:ByteArray) (file first:Int) (nd:Br) (oa m:Nat) (W:World):Prop where
 lies:nd.Lies W
 len:nd.flatB.length≤10000000
 span:∀ z ∈ nd.flatB,0≤z.h.f∧z.h.f≤z.h.t∧z.h.t≤(s.size:Int)
 js:∃ js:List Nat,dQ nd.flatB=js.map (fun j:Nat=>first+(j:Int))∧js.Nodup∧js.length=m∧∀ j,j ∈ js ↔ j < m
 m9:m≤1000000
 oal:oa < W.heap.size
 occ:∃ ov:Nat→fK,(∀ i,i < m→jh W oa (i * 5) (ov i)∧(ov i).file=file∧0≤(ov i).at_∧(ov i).at_ < (ov i).end_∧(ov i).end_≤(s.size:Int)∧Gh (ov i).sp (s.extract (ov i).at_.toNat (ov i).end_.toNat)=true)∧∀ i,i+1 < m→(ov i).end_≤(ov (i+1)).at_
mutual
def xJ:Pb→List (Int × Int × List Int)
 | .mk _ _ f t ns ks=>(f,t,ns) :: uB ks
def uB:List Pb→List (Int × Int × List Int)
 | []=>[]
 | b :: r=>xJ b++uB r
end
theorem FO (ks:List Br) (ih:∀ k ∈ ks,k.flatB.map (fun z=>(z.h.f,z.h.t,z.h.ns))=xJ k.pb):(bC ks).map (fun z=>(z.h.f,z.h.t,z.h.ns))=uB (ks.map Br.pb):=by
 induction ks with
 | nil=>rfl
 | cons x r ihr =>
  simp only [bC,List.map_append,List.map_cons,uB];rw [ih x (by simp),ihr fun k hk=>ih k (by simp [hk])]
theorem Ox (y:Br):y.flatB.map (fun z=>(z.h.f,z.h.t,z.h.ns))=xJ y.pb:=by
 induction y using Br.ind with
 | hP h ks ih =>
  rw [iI];simp only [Br.pb,eQ,xJ,List.map_cons];rw [show (Br.mk h ks).ks=ks from rfl,FO ks ih]
  rfl
theorem FM (L:List Tok) (first:Int) (ts:List Int) (ks:List Br) (ih:∀ k ∈ ks,xJ (qw L first ts k)=k.flatB.map (fun z=>((eP L z.h.f.toNat z.h.t.toNat).1,(eP L z.h.f.toNat z.h.t.toNat).2,z.h.ns.map (jQ first ts)))) :
  uB (xM L first ts ks)=(bC ks).map (fun z=>((eP L z.h.f.toNat z.h.t.toNat).1,(eP L z.h.f.toNat z.h.t.toNat).2,z.h.ns.map (jQ first ts))):=by
 induction ks with
 | nil=>rfl
 | cons x r ihr =>
  simp only [xM,uB,bC,List.map_append];rw [ih x (by simp),ihr fun k hk=>ih k (by simp [hk])]
theorem JS (L:List Tok) (first:Int) (ts:List Int) (y:Br):xJ (qw L first ts y)=y.flatB.map (fun z=>((eP L z.h.f.toNat z.h.t.toNat).1,(eP L z.h.f.toNat z.h.t.toNat).2,z.h.ns.map (jQ first ts))):=by
 induction y using Br.ind with
 | hP h ks ih =>
  rw [iI];simp only [qw,xJ,List.map_cons];rw [show (Br.mk h ks).ks=ks from rfl,FM L first ts ks ih]
  rfl
theorem QU (s:ByteArray) (f t:Nat) (hf:f < (aO s).length) (hft:f≤t) (ht:t≤(aO s).length) (hin:∀ x ∈ aO s,x.a≤x.e∧x.e≤s.size):0≤(eP (aO s) f t).1∧(eP (aO s) f t).1≤(eP (aO s) f t).2∧(eP (aO s) f t).2≤(s.size:Int):=by
 have hr:=vY s;generalize aO s=L at *;obtain ⟨a1,a2⟩:=hin L[f] (List.getElem_mem hf);unfold eP;rw [List.getElem?_eq_getElem hf]
 cases h:(f == t)
 ·have hne:f≠t:=by simpa using h
  obtain ⟨j,rfl⟩:∃ j,t=j+1:=⟨t - 1,by omega⟩
  have hj:j < L.length:=by omega
  rw [Nat.add_sub_cancel,List.getElem?_eq_getElem hj];obtain ⟨b1,b2⟩:=hin L[j] (List.getElem_mem hj);simp only [Option.map_some,Option.getD_some,cond_false]
  have:L[f].a≤L[j].e:=by
   rcases Nat.lt_or_ge f j with hlt | hge
   ·have:=List.pairwise_iff_getElem.1 hr f j hf hj hlt
    omega
   ·have:f=j:=by omega
    subst this; omega
  omega
 ·simp only [Option.map_some,Option.getD_some,cond_true]
  omega
theorem MN (k:Int):0≤iZ k∧iZ k≤6:=by
 unfold iZ
 cases (k == 5 || k == 39 || k == 40 || k == 22) <;> cases (k == 6 || k == 8 || k == 23) <;> cases (k == 9) <;> cases (k == 10 || k == 24) <;> cases (k == 11) <;> decide
theorem JP (k:Int):1≤rE k∧rE k≤6:=by
 unfold rE
 cases (k == 28) <;> cases (k == 29) <;> cases (k == 42 || k == 21) <;> decide
theorem P8 {k:Int} {j n:Nat} (h:kR k n=true) (hj:j < n):1≤(ji k j n).1∧(ji k j n).1≤6:=by
 have h1:=MN k;have h2:=JP k;unfold ji
 cases c1:(!(iZ k == 0))
 ·simp only [cond_false]
  cases c2:(k == 12)
  ·simp only [cond_false]
   cases c3:(k == 37)
   ·simp only [cond_false]
    cases c4:(k == 20)
    ·simp only [cond_false]
     cases c5:(k == 17)
     ·simp only [cond_false]
      cases c6:kM k
      ·exfalso
       unfold kR at h;rw [c1,c2,c3,c4,c5,c6] at h;simp at h
       omega
      ·simp only [cond_true]
       cases (j+1 == n)
       ·simp
       ·exact h2
     ·simp
    ·simp
   ·simp
  ·simp only [cond_true]
   cases (j == 0) <;> simp
 ·simp only [cond_true]
  have:iZ k≠0:=by simpa using c1
  omega
theorem Md {sp k:Int} (h:okK sp k=true) (h2:1≤sp∧sp≤6):(k=6∨k=7∨k=9)∧True∧∀ t:ByteArray,eU t=k→Gh sp t=true:=by
 unfold okK at h
 cases a1:(sp == 1)
 ·rw [a1] at h
  cases a3:(sp == 3)
  ·rw [a3] at h
   have hk:k=7:=by simpa using h
   refine ⟨by omega,trivial,fun t ht=>?_⟩
   unfold Gh;rw [a1,a3,ht,hk];have n1:sp≠1:=by simpa using a1
   simp; omega
  ·rw [a3] at h
   have hk:k=6:=by simpa using h
   refine ⟨by omega,trivial,fun t ht=>?_⟩
   unfold Gh;rw [a1,a3,ht,hk]; rfl
 ·rw [a1] at h
  have hk:k=6∨k=9:=by simpa using h
  refine ⟨by omega,trivial,fun t ht=>?_⟩
  unfold Gh;rw [a1,ht]
  rcases hk with rfl | rfl <;> rfl
theorem QQ (s:ByteArray) (hs:s.size≤5000) (file first:Int) (h1:0≤first) (h2:first≤1000000) {y0:Br} {n:Nat} {v:Value} {oa m:Nat} {ts:List Int} {W:World} (h:OL s file first y0 n v oa m ts W) :
  ∃ nd:Br,v=nd.h.val∧XG s file first nd oa m W:=by
 obtain ⟨hok,⟨nd,rfl,hl,hp⟩,hr,hm,hmem,ZI,Lu⟩:=h;have R:=vN (by omega) (by omega) hok;obtain ⟨_,S,e1,e2,g,e3⟩:=hok;have rt:=He g (by rw [e1]; exact e2) e3;rw [e1] at rt;have ft:=Cj S y0 (Na e3);have hin:∀ x ∈ aO s,x.a≤x.e∧x.e≤s.size:=fun x hx=>by
  have:=g.inside x (by rw [e2]; exact hx)
  rw [e1] at this;exact this
 have hfl:nd.flatB.map (fun z=>(z.h.f,z.h.t,z.h.ns))=y0.flatB.map (fun z=>((eP (aO s) z.h.f.toNat z.h.t.toNat).1,(eP (aO s) z.h.f.toNat z.h.t.toNat).2,z.h.ns.map (jQ first ts))):=by
  rw [Ox,hp,JS]
 have hrt:∀ z ∈ y0.flatB,0≤z.h.f∧z.h.f≤z.h.t∧z.h.t≤((aO s).length:Int)∧z.h.f < ((aO s).length:Int):=fun z hz=>by
  have hto:y0.h.t=(n:Int):=by have h9:y0.pb.to=y0.h.t:=by { cases y0; simp [Br.pb,Pb.to,Br.h] }; rw [← h9]; exact rt.to
  have hlen:=rt.len;obtain ⟨r1,r2⟩:=vI y0 n rt.rt (by omega) z hz;have r3:=R.fl z hz;obtain ⟨hd,ks⟩:=z;simp only [Br.pb,Pb.Rt] at r1;have a0:=r1.2.1;have a1:hd.f≤hd.t:=r1.2.2.1;have a2:hd.t≤(n:Int):=r2;have a3:hd.f < ((aO s).length:Int):=r3;exact ⟨a0,a1,by show hd.t≤_; omega,a3⟩
 have htn:ts.Nodup:=hr.imp fun h=>by omega
 have Ve:m≤1000000:=by
  have hperm:ts.Perm (dQ y0.flatB):=(List.perm_ext_iff_of_nodup htn R.nd).2 hmem
  have:=qU y0
  have:=R.wt
  rw [← hm,hperm.length_eq]; omega
 refine ⟨nd,rfl,hl,?_,?_,?_,Ve,ZI,?_⟩
 ·have:=congrArg List.length hfl
  rw [List.length_map,List.length_map] at this
  have:=qU y0
  have:=R.wt
  omega
 ·intro z hz
  have hz2:(z.h.f,z.h.t,z.h.ns) ∈ nd.flatB.map (fun z=>(z.h.f,z.h.t,z.h.ns)):=List.mem_map.2 ⟨z,hz,rfl⟩;rw [hfl] at hz2;obtain ⟨y,hy,he⟩:=List.mem_map.1 hz2;simp only [Prod.mk.injEq] at he;obtain ⟨he1,he2,_⟩:=he;obtain ⟨b0,b1,b2,b3⟩:=hrt y hy
  have:=QU s y.h.f.toNat y.h.t.toNat (by omega) (by omega) (by omega) hin
  rw [← he1,← he2];exact this
 ·have hperm:ts.Perm (dQ y0.flatB):=(List.perm_ext_iff_of_nodup htn R.nd).2 hmem
  have hidx:∀ t ∈ dQ y0.flatB,ts[iK ts t]?=some t:=fun t ht=>qc ((hmem t).2 ht)
  refine ⟨(dQ y0.flatB).map (iK ts),?_,?_,?_,fun j=>?_⟩
  ·have h5:dQ nd.flatB=(nd.flatB.map (fun z=>(z.h.f,z.h.t,z.h.ns))).flatMap (fun p=>p.2.2):=by rw [List.flatMap_map]; rfl
   rw [h5,hfl,List.flatMap_map,List.map_map];have h6:(y0.flatB.flatMap fun z=>z.h.ns.map (jQ first ts))=(dQ y0.flatB).map (jQ first ts):=by unfold dQ; rw [List.map_flatMap]
   rw [h6];refine List.map_congr_left fun t ht=>?_
   have hlt:iK ts t < ts.length:=(List.getElem?_eq_some_iff.1 (hidx t ht)).1;simp only [Function.comp,jQ,wrap64]
   omega
  ·refine List.pairwise_map.2 (R.nd.imp_of_mem fun {a b} ha hb hab e=>hab ?_)
   have q1:=hidx a ha;have q2:=hidx b hb;rw [e,q2] at q1;exact (Option.some.inj q1).symm
  ·rw [List.length_map,← hperm.length_eq]; exact hm
  ·rw [List.mem_map]
   constructor
   ·rintro ⟨t,ht,rfl⟩
    have:=(List.getElem?_eq_some_iff.1 (hidx t ht)).1
    omega
   ·intro hj
    have hj2:j < ts.length:=by omega
    refine ⟨ts[j],(hmem _).1 (List.getElem_mem hj2),?_⟩
    have q1:=hidx ts[j] ((hmem _).1 (List.getElem_mem hj2));rw [← List.getElem?_eq_getElem hj2] at q1;exact (List.getElem?_inj (List.getElem?_eq_some_iff.1 (hidx ts[j] ((hmem _).1 (List.getElem_mem hj2)))).1 htn).1 q1
 ·have hex:∀ i:Nat,∃ v:fK,i < m→∃ t:Int,ts[i]?=some t∧∃ x:Tok,(aO s)[t.toNat]?=some x∧0≤t∧jh W oa (i * 5) v∧v.file=file∧v.at_=(x.a:Int)∧v.end_=(x.e:Int)∧x.a < x.e∧x.e≤s.size∧Gh v.sp (s.extract x.a x.e)=true:=fun i=>by
   by_cases hi:i < m
   ·have hi2:i < ts.length:=by omega
    obtain ⟨z,hz,j,hj,ho⟩:=Lu i ts[i] (List.getElem?_eq_getElem hi2);refine ⟨qp (aO s) file z.h.k z.h.ns.length j ts[i],fun _=>⟨ts[i],List.getElem?_eq_getElem hi2,?_⟩⟩
    ·obtain ⟨b0,b1⟩:=R.inn ts[i] ((hmem _).1 (List.getElem_mem hi2))
     have hlt:(ts[i]).toNat < (aO s).length:=by omega
     have hx:=List.getElem?_eq_getElem hlt;have hfz:=ft z hz;obtain ⟨hd,ks⟩:=z;obtain ⟨hjl,hje⟩:=List.getElem?_eq_some_iff.1 hj;simp only [Br.pb,Pb.Fit] at hfz;have hkk:=hfz.1.2.2 j hjl;have ZJ:hd.ns[j]'hjl=ts[i]:=hje;rw [ZJ] at hkk;have hkd:S.kd (ts[i]).toNat=(aO s)[(ts[i]).toNat].k:=by
      rw [Src.kd_at S (by rw [e2]; exact hlt)]
      congr 1
      simp only [e2]
     rw [hkd] at hkk;refine ⟨_,hx,b0,ho,rfl,?_,?_,?_⟩
     ·simp only [qp,hx,Option.map_some,Option.getD_some]
     ·simp only [qp,hx,Option.map_some,Option.getD_some]
     ·have hsp:(qp (aO s) file hd.k hd.ns.length j ts[i]).sp=(ji hd.k j hd.ns.length).1:=rfl
      obtain ⟨w1,w2,w3⟩:=Md hkk (P8 hfz.1.2.1 hjl);have hx2:(aO s)[(ts[i]).toNat] ∈ aO s:=List.getElem_mem hlt;obtain ⟨k1,k2,k3⟩:=F6 s _ hx2 w1;refine ⟨k2,k3,?_⟩
      exact w3 _ k1
   ·exact ⟨⟨0,0,0,0,false⟩,fun h=>absurd h hi⟩
  refine ⟨fun i=>Classical.choose (hex i),fun i hi=>?_,fun i hi=>?_⟩
  ·obtain ⟨t,q1,x,q2,q3,q4,q5,q6,q7,q8,q9,q10⟩:=Classical.choose_spec (hex i) hi
   refine ⟨q4,q5,by rw [q6]; omega,by rw [q6,q7]; omega,by rw [q7]; omega,?_⟩
   rw [q6,q7,Int.toNat_natCast,Int.toNat_natCast];exact q10
  ·obtain ⟨t,q1,x,q2,q3,q4,q5,q6,q7,q8,q9,q10⟩:=Classical.choose_spec (hex i) (by omega)
   obtain ⟨u,p1,y,p2,p3,p4,p5,p6,p7,p8,p9,p10⟩:=Classical.choose_spec (hex (i+1)) hi;rw [q7,p6];have hlt:t < u:=by
    obtain ⟨l1,l2⟩:=List.getElem?_eq_some_iff.1 q1;obtain ⟨l3,l4⟩:=List.getElem?_eq_some_iff.1 p1
    have:=List.pairwise_iff_getElem.1 hr i (i+1) l1 l3 (by omega)
    rw [l2,l4] at this;exact this
   obtain ⟨l1,l2⟩:=List.getElem?_eq_some_iff.1 q2;obtain ⟨l3,l4⟩:=List.getElem?_eq_some_iff.1 p2
   have:=List.pairwise_iff_getElem.1 (vY s) t.toNat u.toNat l1 l3 (by omega)
   rw [l2,l4] at this
   omega
end Go.Proofs.YtmpmfamiegpmgaaGreatDoor
