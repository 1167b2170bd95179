/-
  A text's tokens follow one another: plain facts.; A token's own text is one token, of its kind: plain facts.; Two texts with a line end between them: plain facts.
-/
import Derived.Test.YtmpmfamiegpmgaaGreatDoorFB
namespace Go.Proofs.YtmpmfamiegpmgaaGreatDoor
open Go.RowKit
set_option maxRecDepth 20000
set_option linter.unusedVariables false
set_option linter.unusedSimpArgs false
def Chain (n:Nat):Nat→List Tok→Prop
 | _,[]=>False
 | a,t :: r=>(r=[]∧t=⟨0,n,n⟩∧a=n)∨(t.k≠0∧t.a=a∧a < t.e∧t.e≤n∧Chain n t.e r)
def yw (n:Nat) (l:List Tok) (i:Nat):Nat:=match l[i]? with
 | some t=>t.a
 | none=>n
theorem Chain.length {n a:Nat} {l:List Tok} (h:Chain n a l):0 < l.length∧l.length≤n - a+1∧a≤n:=by
 induction l generalizing a with
 | nil=>exact h.elim
 | cons t r ih =>
  rcases h with ⟨h1,_,h2⟩ | ⟨_,_,h3,h4,h5⟩
  ·subst h1; simp; omega
  ·have:=ih h5; simp; omega
theorem Chain.pos0 {n a:Nat} {l:List Tok} (h:Chain n a l):yw n l 0=a:=by
 cases l with
 | nil=>exact h.elim
 | cons t r =>
  rcases h with ⟨_,h1,h2⟩ | ⟨_,h1,_⟩
  ·subst h1; simp [yw,h2]
  ·simpa [yw] using h1
theorem Qe (n:Nat) (l:List Tok) (i:Nat) (h:i < l.length):yw n l i=l[i].a:=by simp [yw,h]
theorem yX (n:Nat) (t:Tok) (r:List Tok) (i:Nat):yw n (t :: r) (i+1)=yw n r i:=by simp [yw]
theorem Chain.at {n a:Nat} {l:List Tok} (h:Chain n a l) (i:Nat) (hi:i < l.length) :
  l[i].a=yw n l i∧l[i].e=yw n l (i+1)∧l[i].e≤n∧((i+1=l.length∧l[i].k=0∧l[i].e=l[i].a)∨(i+1 < l.length∧l[i].k≠0∧l[i].a < l[i].e)):=by
 refine ⟨(Qe n l i hi).symm,?_⟩
 induction l generalizing a i with
 | nil=>exact h.elim
 | cons t r ih =>
  rcases h with ⟨h1,h2,h3⟩ | ⟨h1,h2,h3,h4,h5⟩
  ·subst h1
   have:i=0:=by simp at hi; omega
   subst this;subst h2
   simp [yw]
  ·cases i with
   | zero =>
    have hl:=h5.length;simp only [yX,h5.pos0,List.getElem_cons_zero,List.length_cons];exact ⟨by first | trivial | rfl,h4,.inr ⟨by omega,h1,by omega⟩⟩
   | succ i =>
    have:=ih h5 i (by simpa using hi)
    simp only [yX,List.getElem_cons_succ,List.length_cons];refine ⟨this.1,this.2.1,?_⟩
    rcases this.2.2 with ⟨e,f⟩ | ⟨e,f⟩
    ·exact .inl ⟨by omega,f⟩
    ·exact .inr ⟨by omega,f⟩
theorem jk {σ:Type} (f:σ→UInt8→σ × Bool) (q:σ) (l:List UInt8) (m:Nat):aQ f q (l.take m)=min m (aQ f q l):=by
 induction l generalizing q m with
 | nil=>simp [aQ]
 | cons c r ih =>
  cases m with
  | zero=>simp [aQ]
  | succ m =>
   simp only [List.take_succ_cons,aQ]
   cases (f q c).2
   ·simp
   ·simp only [cond_true,ih]; omega
theorem yg {l:List UInt8} {j:Nat} {x:Int} (h:headB l x=false):headB (l.take j) x=false:=by
 cases l with
 | nil=>simp [headB]
 | cons c r=>cases j with
  | zero=>rfl
  | succ j=>exact h
theorem pU (l:List UInt8) (j:Nat) (x:Int) (h:0 < j):headB (l.take j) x=headB l x:=by
 cases l with
 | nil=>simp [headB]
 | cons c r=>cases j with
  | zero=>omega
  | succ j=>rfl
theorem oW (l:List UInt8) (n q:Nat):(l.take (n+q)).drop n=(l.drop n).take q:=by
 rw [List.drop_take]; congr 1; omega
theorem DL (r:List UInt8):iD (r.take ((iD r).2 - 1))=iD r:=by
 have hle:=fK qF false r;unfold iD
 simp only
 cases h:headB (r.drop (aQ qF false r)) 34
 ·simp only [cond_false]
  have hm:aQ qF false r+1+aQ (bW qL) () (r.drop (aQ qF false r)) - 1=aQ qF false r+aQ (bW qL) () (r.drop (aQ qF false r)):=by omega
  rw [hm,jk,Nat.min_eq_right (by omega),oW,yg h,jk,Nat.min_self]
  rfl
 ·simp only [cond_true]
  have hm:aQ qF false r+2 - 1=aQ qF false r+1:=by omega
  rw [hm,jk,Nat.min_eq_right (by omega),oW,pU _ _ _ (by omega),h]
  rfl
theorem Fh (l:List UInt8) (h:0 < l.length):jf (l.take (jf l).2)=jf l:=by
 have hle:=fK nF (0,0) l;unfold jf
 simp only
 cases e:(aQ nF (0,0) l == l.length)
 ·simp only [cond_false]
  have hne:¬ aQ nF (0,0) l=l.length:=by simpa using e
  rw [jk,Nat.min_eq_right (by omega),List.length_take,Nat.min_eq_left (by omega)]
  have:(aQ nF (0,0) l == aQ nF (0,0) l+1)=false:=by simp
  rw [this]
  rfl
 ·simp only [cond_true]
  have hq:aQ nF (0,0) l=l.length:=by simpa using e
  rw [hq,List.take_length,hq]
  simp
theorem MV (r:List UInt8):2≤aQ nF (0,0) (40 :: 42 :: r):=by
 have h1:nF (0,0) 40=((0,40),true):=by decide
 have h2:nF (0,40) 42=((1,0),true):=by decide
 simp only [aQ,h1,h2,cond_true]
 omega
theorem NJ {c:UInt8} {n:UInt8} (h:eqB c (n.toNat:Int)=true):c=n:=by
 unfold eqB at h;rw [MF]
 simpa using h
theorem Jy (l:List UInt8) (h:l≠[]):bK (l.take (bK l).2)=bK l:=by
 cases l with
 | nil=>exact absurd rfl h
 | cons c r =>
  have hb:=lu (c :: r) (by simp);obtain ⟨m,hm⟩:∃ m,(bK (c :: r)).2=m+1:=⟨(bK (c :: r)).2 - 1,by omega⟩
  have key:bK ((c :: r).take (m+1))=bif dL c then (1,aQ (bW dL) () ((c :: r).take (m+1)))
    else bif eqB c 34 then iD (r.take m)
    else bif eqB c 40 && headB (r.take m) 42 then jf ((c :: r).take (m+1))
    else bif dM c then (dm (((c :: r).take (m+1)).take (aQ (bW dM) () ((c :: r).take (m+1)))),aQ (bW dM) () ((c :: r).take (m+1)))
    else bif dP c then (dm (((c :: r).take (m+1)).take (aQ (bW dP) () ((c :: r).take (m+1)))),aQ (bW dP) () ((c :: r).take (m+1)))
    else (dm (((c :: r).take (m+1)).take 1),1):=rfl
  have own:bK (c :: r)=bif dL c then (1,aQ (bW dL) () (c :: r))
    else bif eqB c 34 then iD r
    else bif eqB c 40 && headB r 42 then jf (c :: r)
    else bif dM c then (dm ((c :: r).take (aQ (bW dM) () (c :: r))),aQ (bW dM) () (c :: r))
    else bif dP c then (dm ((c :: r).take (aQ (bW dP) () (c :: r))),aQ (bW dP) () (c :: r))
    else (dm ((c :: r).take 1),1):=rfl
  rw [hm,key];rw [own] at hm ⊢;clear key own hb h
  cases h1:dL c
  ·cases h2:eqB c 34
   ·cases h3:(eqB c 40 && headB r 42)
    ·have h3':(eqB c 40 && headB (r.take m) 42)=false:=by
      cases h4:eqB c 40
      ·rfl
      ·rw [h4,Bool.true_and] at h3; rw [yg h3]; rfl
     cases h4:dM c
     ·cases h5:dP c
      ·simp only [h1,h2,h3,h4,h5,cond_false] at hm
       have:m=0:=by omega
       subst this;simp only [h3',cond_false]
       rfl
      ·simp only [h1,h2,h3,h4,h5,cond_false,cond_true] at hm
       simp only [h3',cond_false,cond_true];rw [jk,hm,Nat.min_self,List.take_take,Nat.min_self]
     ·simp only [h1,h2,h3,h4,cond_false,cond_true] at hm
      simp only [h3',cond_false,cond_true];rw [jk,hm,Nat.min_self,List.take_take,Nat.min_self]
    ·simp only [h1,h2,h3,cond_false,cond_true] at hm
     rw [Bool.and_eq_true] at h3;have hc:c=40:=NJ (n:=40) h3.1
     cases r with
     | nil=>exact absurd h3.2 (by simp [headB])
     | cons d t =>
      have hd:d=42:=NJ (n:=42) h3.2;subst hc hd;have h2:=MV t;have hm1:1≤m:=by
       unfold jf at hm
       simp only at hm
       cases e:(aQ nF (0,0) (40 :: 42 :: t) == (40 :: 42 :: t).length) <;> rw [e] at hm <;> simp at hm <;> omega
      rw [pU _ _ _ hm1,h3.1,h3.2];simp only [Bool.and_self,cond_true,cond_false]
      have:=Fh (40 :: 42 :: t) (by simp)
      rw [hm] at this;exact this
   ·simp only [h1,h2,cond_false,cond_true] at hm
    simp only [cond_false,cond_true]
    have:=DL r
    rw [hm] at this;exact this
  ·simp only [h1,cond_true] at hm
   simp only [cond_true];rw [jk,hm,Nat.min_self]
theorem IJ (s:ByteArray) (a:Nat) (ha:a≤s.size):∀ t ∈ ig s a,t.a≤s.size∧t=eG s t.a:=by
 obtain ⟨m,hm⟩:∃ m,m=s.size - a:=⟨_,rfl⟩
 induction m using Nat.strongRecOn generalizing a with
 | _ m ih =>
  intro t ht
  by_cases h:a < s.size
  ·have hb:=oV s a h
   rw [Ey s a h] at ht
   rcases List.mem_cons.1 ht with rfl | ht
   ·rw [show (eG s a).a=a by rw [mV s a h]]
    exact ⟨ha,rfl⟩
   ·exact ih (s.size - (eG s a).e) (by omega) _ hb.2 rfl t ht
  ·have:a=s.size:=by omega
   subst this;rw [zu] at ht
   have:t=eG s s.size:=by simpa using ht
   subst this;rw [jQ];exact ⟨Nat.le_refl _,(jQ s).symm⟩
def kS (a:Nat) (l:List UInt8):List Tok:=fH kR (dw l.length a l)
theorem xB (a:Nat) (l:List UInt8) (h:l≠[]):kS a l=fH kR [⟨(bK l).1,a,a+(bK l).2⟩]++kS (a+(bK l).2) (l.drop (bK l).2):=by
 have hb:=lu l h;unfold kS;obtain ⟨m,hm⟩:∃ m,l.length=m+1:=⟨l.length - 1,by omega⟩
 rw [hm];have he:l.isEmpty=false:=by cases l <;> simp_all
 simp only [dw,he,cond_false];rw [show (⟨(bK l).1,a,a+(bK l).2⟩:Tok) :: dw m (a+(bK l).2) (l.drop (bK l).2)=[⟨(bK l).1,a,a+(bK l).2⟩]++dw m (a+(bK l).2) (l.drop (bK l).2) from rfl,oM];rw [yu m (l.drop (bK l).2).length _ _ (by rw [List.length_drop]; omega) (Nat.le_refl _)]
theorem AQ (b:Nat) (T:List UInt8):kS (b+aQ (bW dL) () T) (T.drop (aQ (bW dL) () T))=kS b T:=by
 cases T with
 | nil=>rfl
 | cons c r =>
  cases hb:dL c
  ·have:aQ (bW dL) () (c :: r)=0:=by simp [aQ,bW,hb]
   rw [this]; rfl
  ·have ht:bK (c :: r)=(1,aQ (bW dL) () (c :: r)):=by unfold bK; simp only [hb,cond_true]
   rw [xB b (c :: r) (by simp),ht]
   rfl
def acJ (a:Nat) (l:List UInt8):Prop:=∀ t ∈ dw l.length a l,iZ t=true
def abz (d:Nat) (t:Tok):Tok:=⟨t.k,t.a+d,t.e+d⟩
end Go.Proofs.YtmpmfamiegpmgaaGreatDoor
