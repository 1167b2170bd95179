/-
  A text's tokens follow one another: plain facts.; A token's own text is one token, of its kind: plain facts.; Two texts with a line end between them: plain facts.
-/
import Derived.Test.YtmpmfamiegpmgaaGreatDoorGB
namespace Go.Proofs.YtmpmfamiegpmgaaGreatDoor
open Go.RowKit
set_option maxRecDepth 20000
set_option linter.unusedVariables false
set_option linter.unusedSimpArgs false
def Chain (n:Nat):Nat→List Tok→Prop
 | _,[]=>False
 | a,t :: r=>(r=[]∧t=⟨0,n,n⟩∧a=n)∨(t.k≠0∧t.a=a∧a < t.e∧t.e≤n∧Chain n t.e r)
def ad4 (n:Nat) (l:List Tok) (i:Nat):Nat:=match l[i]? with
 | some t=>t.a
 | none=>n
theorem jd {σ:Type} (f:σ→UInt8→σ × Bool) (q:σ) (l:List UInt8) (m:Nat):aV f q (l.take m)=min m (aV f q l):=by
 induction l generalizing q m with
 | nil=>simp [aV]
 | cons c r ih =>
  cases m with
  | zero=>simp [aV]
  | succ m =>
   simp only [List.take_succ_cons,aV]
   cases (f q c).2
   ·simp
   ·simp only [cond_true,ih]; omega
theorem xX {l:List UInt8} {j:Nat} {x:Int} (h:headB l x=false):headB (l.take j) x=false:=by
 cases l with
 | nil=>simp [headB]
 | cons c r=>cases j with
  | zero=>rfl
  | succ j=>exact h
theorem oZ (l:List UInt8) (j:Nat) (x:Int) (h:0 < j):headB (l.take j) x=headB l x:=by
 cases l with
 | nil=>simp [headB]
 | cons c r=>cases j with
  | zero=>omega
  | succ j=>rfl
theorem o5 (l:List UInt8) (n q:Nat):(l.take (n+q)).drop n=(l.drop n).take q:=by
 rw [List.drop_take]; congr 1; omega
theorem BI (r:List UInt8):iD (r.take ((iD r).2 - 1))=iD r:=by
 have hle:=fG qF false r;unfold iD
 simp only
 cases h:headB (r.drop (aV qF false r)) 34
 ·simp only [cond_false]
  have hm:aV qF false r+1+aV (dE qJ) () (r.drop (aV qF false r)) - 1=aV qF false r+aV (dE qJ) () (r.drop (aV qF false r)):=by omega
  rw [hm,jd,Nat.min_eq_right (by omega),o5,xX h,jd,Nat.min_self]
  rfl
 ·simp only [cond_true]
  have hm:aV qF false r+2 - 1=aV qF false r+1:=by omega
  rw [hm,jd,Nat.min_eq_right (by omega),o5,oZ _ _ _ (by omega),h]
  rfl
theorem E5 (l:List UInt8) (h:0 < l.length):jB (l.take (jB l).2)=jB l:=by
 have hle:=fG nF (0,0) l;unfold jB
 simp only
 cases e:(aV nF (0,0) l == l.length)
 ·simp only [cond_false]
  have hne:¬ aV nF (0,0) l=l.length:=by simpa using e
  rw [jd,Nat.min_eq_right (by omega),List.length_take,Nat.min_eq_left (by omega)]
  have:(aV nF (0,0) l == aV nF (0,0) l+1)=false:=by simp
  rw [this]
  rfl
 ·simp only [cond_true]
  have hq:aV nF (0,0) l=l.length:=by simpa using e
  rw [hq,List.take_length,hq]
  simp
theorem Nb (r:List UInt8):2≤aV nF (0,0) (40 :: 42 :: r):=by
 have h1:nF (0,0) 40=((0,40),true):=by decide
 have h2:nF (0,40) 42=((1,0),true):=by decide
 simp only [aV,h1,h2,cond_true]
 omega
theorem NF {c:UInt8} {n:UInt8} (h:eqB c (n.toNat:Int)=true):c=n:=by
 unfold eqB at h;rw [MJ]
 simpa using h
theorem Ir (l:List UInt8) (h:l≠[]):dw (l.take (dw l).2)=dw l:=by
 cases l with
 | nil=>exact absurd rfl h
 | cons c r =>
  have hb:=ou (c :: r) (by simp);obtain ⟨m,hm⟩:∃ m,(dw (c :: r)).2=m+1:=⟨(dw (c :: r)).2 - 1,by omega⟩
  have key:dw ((c :: r).take (m+1))=bif gQ c then (1,aV (dE gQ) () ((c :: r).take (m+1)))
    else bif eqB c 34 then iD (r.take m)
    else bif eqB c 40 && headB (r.take m) 42 then jB ((c :: r).take (m+1))
    else bif dM c then (dh (((c :: r).take (m+1)).take (aV (dE dM) () ((c :: r).take (m+1)))),aV (dE dM) () ((c :: r).take (m+1)))
    else bif dP c then (dh (((c :: r).take (m+1)).take (aV (dE dP) () ((c :: r).take (m+1)))),aV (dE dP) () ((c :: r).take (m+1)))
    else (dh (((c :: r).take (m+1)).take 1),1):=rfl
  have own:dw (c :: r)=bif gQ c then (1,aV (dE gQ) () (c :: r))
    else bif eqB c 34 then iD r
    else bif eqB c 40 && headB r 42 then jB (c :: r)
    else bif dM c then (dh ((c :: r).take (aV (dE dM) () (c :: r))),aV (dE dM) () (c :: r))
    else bif dP c then (dh ((c :: r).take (aV (dE dP) () (c :: r))),aV (dE dP) () (c :: r))
    else (dh ((c :: r).take 1),1):=rfl
  rw [hm,key];rw [own] at hm ⊢;clear key own hb h
  cases h1:gQ c
  ·cases h2:eqB c 34
   ·cases h3:(eqB c 40 && headB r 42)
    ·have h3':(eqB c 40 && headB (r.take m) 42)=false:=by
      cases h4:eqB c 40
      ·rfl
      ·rw [h4,Bool.true_and] at h3; rw [xX h3]; rfl
     cases h4:dM c
     ·cases h5:dP c
      ·simp only [h1,h2,h3,h4,h5,cond_false] at hm
       have:m=0:=by omega
       subst this;simp only [h3',cond_false]
       rfl
      ·simp only [h1,h2,h3,h4,h5,cond_false,cond_true] at hm
       simp only [h3',cond_false,cond_true];rw [jd,hm,Nat.min_self,List.take_take,Nat.min_self]
     ·simp only [h1,h2,h3,h4,cond_false,cond_true] at hm
      simp only [h3',cond_false,cond_true];rw [jd,hm,Nat.min_self,List.take_take,Nat.min_self]
    ·simp only [h1,h2,h3,cond_false,cond_true] at hm
     rw [Bool.and_eq_true] at h3;have hc:c=40:=NF (n:=40) h3.1
     cases r with
     | nil=>exact absurd h3.2 (by simp [headB])
     | cons d t =>
      have hd:d=42:=NF (n:=42) h3.2;subst hc hd;have h2:=Nb t;have hm1:1≤m:=by
       unfold jB at hm
       simp only at hm
       cases e:(aV nF (0,0) (40 :: 42 :: t) == (40 :: 42 :: t).length) <;> rw [e] at hm <;> simp at hm <;> omega
      rw [oZ _ _ _ hm1,h3.1,h3.2];simp only [Bool.and_self,cond_true,cond_false]
      have:=E5 (40 :: 42 :: t) (by simp)
      rw [hm] at this;exact this
   ·simp only [h1,h2,cond_false,cond_true] at hm
    simp only [cond_false,cond_true]
    have:=BI r
    rw [hm] at this;exact this
  ·simp only [h1,cond_true] at hm
   simp only [cond_true];rw [jd,hm,Nat.min_self]
theorem JO (s:ByteArray) (a:Nat) (ha:a≤s.size):∀ t ∈ gX s a,t.a≤s.size∧t=eG s t.a:=by
 obtain ⟨m,hm⟩:∃ m,m=s.size - a:=⟨_,rfl⟩
 induction m using Nat.strongRecOn generalizing a with
 | _ m ih =>
  intro t ht
  by_cases h:a < s.size
  ·have hb:=pG s a h
   rw [Ec s a h] at ht
   rcases List.mem_cons.1 ht with rfl | ht
   ·rw [show (eG s a).a=a by rw [mD s a h]]
    exact ⟨ha,rfl⟩
   ·exact ih (s.size - (eG s a).e) (by omega) _ hb.2 rfl t ht
  ·have:a=s.size:=by omega
   subst this;rw [yU] at ht
   have:t=eG s s.size:=by simpa using ht
   subst this;rw [jI];exact ⟨Nat.le_refl _,(jI s).symm⟩
def aco (a:Nat) (l:List UInt8):List Tok:=gY uP (dK l.length a l)
def acp (a:Nat) (l:List UInt8):Prop:=∀ t ∈ dK l.length a l,kG t=true
def aaR (d:Nat) (t:Tok):Tok:=⟨t.k,t.a+d,t.e+d⟩
end Go.Proofs.YtmpmfamiegpmgaaGreatDoor
