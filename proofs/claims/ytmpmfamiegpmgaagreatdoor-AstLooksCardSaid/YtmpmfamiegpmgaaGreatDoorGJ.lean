/-
  A text's tokens follow one another: plain facts.; A token's own text is one token, of its kind: plain facts.; Two texts with a line end between them: plain facts.
-/
import Derived.Test.YtmpmfamiegpmgaaGreatDoorGB
namespace Go.Proofs.YtmpmfamiegpmgaaGreatDoor
open Go.RowKit
set_option maxRecDepth 20000
set_option linter.unusedVariables false
set_option linter.unusedSimpArgs false
def Chain (n:Nat):Nat→List Tok→Prop
 | _,[]=>False
 | a,t :: r=>(r=[]∧t=⟨0,n,n⟩∧a=n)∨(t.k≠0∧t.a=a∧a < t.e∧t.e≤n∧Chain n t.e r)
def acO (n:Nat) (l:List Tok) (i:Nat):Nat:=match l[i]? with
 | some t=>t.a
 | none=>n
theorem iL {σ:Type} (f:σ→UInt8→σ × Bool) (q:σ) (l:List UInt8) (m:Nat):aQ f q (l.take m)=min m (aQ f q l):=by
 induction l generalizing q m with
 | nil=>simp [aQ]
 | cons c r ih =>
  cases m with
  | zero=>simp [aQ]
  | succ m =>
   simp only [List.take_succ_cons,aQ]
   cases (f q c).2
   ·simp
   ·simp only [cond_true,ih]; omega
theorem vO {l:List UInt8} {j:Nat} {x:Int} (h:headB l x=false):headB (l.take j) x=false:=by
 cases l with
 | nil=>simp [headB]
 | cons c r=>cases j with
  | zero=>rfl
  | succ j=>exact h
theorem oC (l:List UInt8) (j:Nat) (x:Int) (h:0 < j):headB (l.take j) x=headB l x:=by
 cases l with
 | nil=>simp [headB]
 | cons c r=>cases j with
  | zero=>omega
  | succ j=>rfl
theorem ou (l:List UInt8) (n q:Nat):(l.take (n+q)).drop n=(l.drop n).take q:=by
 rw [List.drop_take]; congr 1; omega
theorem CQ (r:List UInt8):gQ (r.take ((gQ r).2 - 1))=gQ r:=by
 have hle:=eu qF false r;unfold gQ
 simp only
 cases h:headB (r.drop (aQ qF false r)) 34
 ·simp only [cond_false]
  have hm:aQ qF false r+1+aQ (cu pg) () (r.drop (aQ qF false r)) - 1=aQ qF false r+aQ (cu pg) () (r.drop (aQ qF false r)):=by omega
  rw [hm,iL,Nat.min_eq_right (by omega),ou,vO h,iL,Nat.min_self]
  rfl
 ·simp only [cond_true]
  have hm:aQ qF false r+2 - 1=aQ qF false r+1:=by omega
  rw [hm,iL,Nat.min_eq_right (by omega),ou,oC _ _ _ (by omega),h]
  rfl
theorem EF (l:List UInt8) (h:0 < l.length):ja (l.take (ja l).2)=ja l:=by
 have hle:=eu nF (0,0) l;unfold ja
 simp only
 cases e:(aQ nF (0,0) l == l.length)
 ·simp only [cond_false]
  have hne:¬ aQ nF (0,0) l=l.length:=by simpa using e
  rw [iL,Nat.min_eq_right (by omega),List.length_take,Nat.min_eq_left (by omega)]
  have:(aQ nF (0,0) l == aQ nF (0,0) l+1)=false:=by simp
  rw [this]
  rfl
 ·simp only [cond_true]
  have hq:aQ nF (0,0) l=l.length:=by simpa using e
  rw [hq,List.take_length,hq]
  simp
theorem LV (r:List UInt8):2≤aQ nF (0,0) (40 :: 42 :: r):=by
 have h1:nF (0,0) 40=((0,40),true):=by decide
 have h2:nF (0,40) 42=((1,0),true):=by decide
 simp only [aQ,h1,h2,cond_true]
 omega
theorem LQ {c:UInt8} {n:UInt8} (h:eqB c (n.toNat:Int)=true):c=n:=by
 unfold eqB at h;rw [Mc]
 simpa using h
theorem I5 (l:List UInt8) (h:l≠[]):dJ (l.take (dJ l).2)=dJ l:=by
 cases l with
 | nil=>exact absurd rfl h
 | cons c r =>
  have hb:=mW (c :: r) (by simp);obtain ⟨m,hm⟩:∃ m,(dJ (c :: r)).2=m+1:=⟨(dJ (c :: r)).2 - 1,by omega⟩
  have key:dJ ((c :: r).take (m+1))=bif gI c then (1,aQ (cu gI) () ((c :: r).take (m+1)))
    else bif eqB c 34 then gQ (r.take m)
    else bif eqB c 40 && headB (r.take m) 42 then ja ((c :: r).take (m+1))
    else bif dI c then (dA (((c :: r).take (m+1)).take (aQ (cu dI) () ((c :: r).take (m+1)))),aQ (cu dI) () ((c :: r).take (m+1)))
    else bif dH c then (dA (((c :: r).take (m+1)).take (aQ (cu dH) () ((c :: r).take (m+1)))),aQ (cu dH) () ((c :: r).take (m+1)))
    else (dA (((c :: r).take (m+1)).take 1),1):=rfl
  have own:dJ (c :: r)=bif gI c then (1,aQ (cu gI) () (c :: r))
    else bif eqB c 34 then gQ r
    else bif eqB c 40 && headB r 42 then ja (c :: r)
    else bif dI c then (dA ((c :: r).take (aQ (cu dI) () (c :: r))),aQ (cu dI) () (c :: r))
    else bif dH c then (dA ((c :: r).take (aQ (cu dH) () (c :: r))),aQ (cu dH) () (c :: r))
    else (dA ((c :: r).take 1),1):=rfl
  rw [hm,key];rw [own] at hm ⊢;clear key own hb h
  cases h1:gI c
  ·cases h2:eqB c 34
   ·cases h3:(eqB c 40 && headB r 42)
    ·have h3':(eqB c 40 && headB (r.take m) 42)=false:=by
      cases h4:eqB c 40
      ·rfl
      ·rw [h4,Bool.true_and] at h3; rw [vO h3]; rfl
     cases h4:dI c
     ·cases h5:dH c
      ·simp only [h1,h2,h3,h4,h5,cond_false] at hm
       have:m=0:=by omega
       subst this;simp only [h3',cond_false]
       rfl
      ·simp only [h1,h2,h3,h4,h5,cond_false,cond_true] at hm
       simp only [h3',cond_false,cond_true];rw [iL,hm,Nat.min_self,List.take_take,Nat.min_self]
     ·simp only [h1,h2,h3,h4,cond_false,cond_true] at hm
      simp only [h3',cond_false,cond_true];rw [iL,hm,Nat.min_self,List.take_take,Nat.min_self]
    ·simp only [h1,h2,h3,cond_false,cond_true] at hm
     rw [Bool.and_eq_true] at h3;have hc:c=40:=LQ (n:=40) h3.1
     cases r with
     | nil=>exact absurd h3.2 (by simp [headB])
     | cons d t =>
      have hd:d=42:=LQ (n:=42) h3.2;subst hc hd;have h2:=LV t;have hm1:1≤m:=by
       unfold ja at hm
       simp only at hm
       cases e:(aQ nF (0,0) (40 :: 42 :: t) == (40 :: 42 :: t).length) <;> rw [e] at hm <;> simp at hm <;> omega
      rw [oC _ _ _ hm1,h3.1,h3.2];simp only [Bool.and_self,cond_true,cond_false]
      have:=EF (40 :: 42 :: t) (by simp)
      rw [hm] at this;exact this
   ·simp only [h1,h2,cond_false,cond_true] at hm
    simp only [cond_false,cond_true]
    have:=CQ r
    rw [hm] at this;exact this
  ·simp only [h1,cond_true] at hm
   simp only [cond_true];rw [iL,hm,Nat.min_self]
theorem Jl (s:ByteArray) (a:Nat) (ha:a≤s.size):∀ t ∈ fU s a,t.a≤s.size∧t=dR s t.a:=by
 obtain ⟨m,hm⟩:∃ m,m=s.size - a:=⟨_,rfl⟩
 induction m using Nat.strongRecOn generalizing a with
 | _ m ih =>
  intro t ht
  by_cases h:a < s.size
  ·have hb:=nP s a h
   rw [CB s a h] at ht
   rcases List.mem_cons.1 ht with rfl | ht
   ·rw [show (dR s a).a=a by rw [lM s a h]]
    exact ⟨ha,rfl⟩
   ·exact ih (s.size - (dR s a).e) (by omega) _ hb.2 rfl t ht
  ·have:a=s.size:=by omega
   subst this;rw [xI] at ht
   have:t=dR s s.size:=by simpa using ht
   subst this;rw [jd];exact ⟨Nat.le_refl _,(jd s).symm⟩
def aa0 (a:Nat) (l:List UInt8):List Tok:=gV rY (eG l.length a l)
def aaZ (a:Nat) (l:List UInt8):Prop:=∀ t ∈ eG l.length a l,jy t=true
def ZP (d:Nat) (t:Tok):Tok:=⟨t.k,t.a+d,t.e+d⟩
end Go.Proofs.YtmpmfamiegpmgaaGreatDoor
