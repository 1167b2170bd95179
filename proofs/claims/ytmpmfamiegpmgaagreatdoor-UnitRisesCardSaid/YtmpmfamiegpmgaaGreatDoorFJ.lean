/-
  A text's tokens follow one another: plain facts.; A token's own text is one token, of its kind: plain facts.; Two texts with a line end between them: plain facts.
-/
import Derived.Test.YtmpmfamiegpmgaaGreatDoorFB
namespace Go.Proofs.YtmpmfamiegpmgaaGreatDoor
open Go.RowKit
set_option maxRecDepth 20000
set_option linter.unusedVariables false
set_option linter.unusedSimpArgs false

/-- Tokens from the place a on, each where the one ahead ends, up to the end at n. -/
def Chain (n:Nat):Nat→List Tok→Prop
 | _,[]=>False
 | a,t :: r=>(r=[]∧t=⟨0,n,n⟩∧a=n)∨(t.k≠0∧t.a=a∧a < t.e∧t.e≤n∧Chain n t.e r)
/-- Where token i begins; n behind the last. -/
def posT (n:Nat) (l:List Tok) (i:Nat):Nat:=match l[i]? with
 | some t=>t.a
 | none=>n
theorem Chain.length {n a:Nat} {l:List Tok} (h:Chain n a l):0 < l.length∧l.length≤n - a+1∧a≤n:=by
 induction l generalizing a with
 | nil=>exact h.elim
 | cons t r ih =>
  rcases h with ⟨h1,_,h2⟩ | ⟨_,_,h3,h4,h5⟩
  ·subst h1; simp; omega
  ·have:=ih h5; simp; omega
theorem Chain.pos0 {n a:Nat} {l:List Tok} (h:Chain n a l):posT n l 0=a:=by
 cases l with
 | nil=>exact h.elim
 | cons t r =>
  rcases h with ⟨_,h1,h2⟩ | ⟨_,h1,_⟩
  ·subst h1; simp [posT,h2]
  ·simpa [posT] using h1
theorem posT_in (n:Nat) (l:List Tok) (i:Nat) (h:i < l.length):posT n l i=l[i].a:=by simp [posT,h]
theorem posT_cons (n:Nat) (t:Tok) (r:List Tok) (i:Nat):posT n (t :: r) (i+1)=posT n r i:=by simp [posT]
theorem Chain.at {n a:Nat} {l:List Tok} (h:Chain n a l) (i:Nat) (hi:i < l.length) :
  l[i].a=posT n l i∧l[i].e=posT n l (i+1)∧l[i].e≤n∧((i+1=l.length∧l[i].k=0∧l[i].e=l[i].a)∨(i+1 < l.length∧l[i].k≠0∧l[i].a < l[i].e)):=by
 refine ⟨(posT_in n l i hi).symm,?_⟩
 induction l generalizing a i with
 | nil=>exact h.elim
 | cons t r ih =>
  rcases h with ⟨h1,h2,h3⟩ | ⟨h1,h2,h3,h4,h5⟩
  ·subst h1
   have:i=0:=by simp at hi; omega
   subst this
   subst h2
   simp [posT]
  ·cases i with
   | zero =>
    have hl:=h5.length
    simp only [posT_cons,h5.pos0,List.getElem_cons_zero,List.length_cons]
    exact ⟨by first | trivial | rfl,h4,.inr ⟨by omega,h1,by omega⟩⟩
   | succ i =>
    have:=ih h5 i (by simpa using hi)
    simp only [posT_cons,List.getElem_cons_succ,List.length_cons]
    refine ⟨this.1,this.2.1,?_⟩
    rcases this.2.2 with ⟨e,f⟩ | ⟨e,f⟩
    ·exact .inl ⟨by omega,f⟩
    ·exact .inr ⟨by omega,f⟩
end Go.Proofs.YtmpmfamiegpmgaaGreatDoor

namespace Go.Proofs.YtmpmfamiegpmgaaGreatDoor
open Go.RowKit
set_option maxRecDepth 20000
set_option linter.unusedVariables false
set_option linter.unusedSimpArgs false

theorem passN_take {σ:Type} (f:σ→UInt8→σ × Bool) (q:σ) (l:List UInt8) (m:Nat):passN f q (l.take m)=min m (passN f q l):=by
 induction l generalizing q m with
 | nil=>simp [passN]
 | cons c r ih =>
  cases m with
  | zero=>simp [passN]
  | succ m =>
   simp only [List.take_succ_cons,passN]
   cases (f q c).2
   ·simp
   ·simp only [cond_true,ih]; omega
theorem headB_take {l:List UInt8} {j:Nat} {x:Int} (h:headB l x=false):headB (l.take j) x=false:=by
 cases l with
 | nil=>simp [headB]
 | cons c r=>cases j with
  | zero=>rfl
  | succ j=>exact h
theorem headB_take_pos (l:List UInt8) (j:Nat) (x:Int) (h:0 < j):headB (l.take j) x=headB l x:=by
 cases l with
 | nil=>simp [headB]
 | cons c r=>cases j with
  | zero=>omega
  | succ j=>rfl
theorem drop_take_self (l:List UInt8) (n q:Nat):(l.take (n+q)).drop n=(l.drop n).take q:=by
 rw [List.drop_take]; congr 1; omega
theorem quote_again (r:List UInt8):quoteN (r.take ((quoteN r).2 - 1))=quoteN r:=by
 have hle:=passN_le qF false r
 unfold quoteN
 simp only
 cases h:headB (r.drop (passN qF false r)) 34
 ·simp only [cond_false]
  have hm:passN qF false r+1+passN (pureF lineB) () (r.drop (passN qF false r)) - 1=passN qF false r+passN (pureF lineB) () (r.drop (passN qF false r)):=by omega
  rw [hm,passN_take,Nat.min_eq_right (by omega),drop_take_self,headB_take h,passN_take,Nat.min_self]
  rfl
 ·simp only [cond_true]
  have hm:passN qF false r+2 - 1=passN qF false r+1:=by omega
  rw [hm,passN_take,Nat.min_eq_right (by omega),drop_take_self,headB_take_pos _ _ _ (by omega),h]
  rfl
theorem note_again (l:List UInt8) (h:0 < l.length):noteN (l.take (noteN l).2)=noteN l:=by
 have hle:=passN_le nF (0,0) l
 unfold noteN
 simp only
 cases e:(passN nF (0,0) l == l.length)
 ·simp only [cond_false]
  have hne:¬ passN nF (0,0) l=l.length:=by simpa using e
  rw [passN_take,Nat.min_eq_right (by omega),List.length_take,Nat.min_eq_left (by omega)]
  have:(passN nF (0,0) l == passN nF (0,0) l+1)=false:=by simp
  rw [this]
  rfl
 ·simp only [cond_true]
  have hq:passN nF (0,0) l=l.length:=by simpa using e
  rw [hq,List.take_length,hq]
  simp
theorem note_two (r:List UInt8):2≤passN nF (0,0) (40 :: 42 :: r):=by
 have h1:nF (0,0) 40=((0,40),true):=by decide
 have h2:nF (0,40) 42=((1,0),true):=by decide
 simp only [passN,h1,h2,cond_true]
 omega
theorem eqB_eq {c:UInt8} {n:UInt8} (h:eqB c (n.toNat:Int)=true):c=n:=by
 unfold eqB at h
 rw [u8_eq]
 simpa using h
/-- The token of a token's own bytes. -/
theorem tok_again (l:List UInt8) (h:l≠[]):tokN (l.take (tokN l).2)=tokN l:=by
 cases l with
 | nil=>exact absurd rfl h
 | cons c r =>
  have hb:=tokN_bound (c :: r) (by simp)
  obtain ⟨m,hm⟩:∃ m,(tokN (c :: r)).2=m+1:=⟨(tokN (c :: r)).2 - 1,by omega⟩
  have key:tokN ((c :: r).take (m+1))=bif blankB c then (1,passN (pureF blankB) () ((c :: r).take (m+1)))
    else bif eqB c 34 then quoteN (r.take m)
    else bif eqB c 40 && headB (r.take m) 42 then noteN ((c :: r).take (m+1))
    else bif restB c then (plainN (((c :: r).take (m+1)).take (passN (pureF restB) () ((c :: r).take (m+1)))),passN (pureF restB) () ((c :: r).take (m+1)))
    else bif signB c then (plainN (((c :: r).take (m+1)).take (passN (pureF signB) () ((c :: r).take (m+1)))),passN (pureF signB) () ((c :: r).take (m+1)))
    else (plainN (((c :: r).take (m+1)).take 1),1):=rfl
  have own:tokN (c :: r)=bif blankB c then (1,passN (pureF blankB) () (c :: r))
    else bif eqB c 34 then quoteN r
    else bif eqB c 40 && headB r 42 then noteN (c :: r)
    else bif restB c then (plainN ((c :: r).take (passN (pureF restB) () (c :: r))),passN (pureF restB) () (c :: r))
    else bif signB c then (plainN ((c :: r).take (passN (pureF signB) () (c :: r))),passN (pureF signB) () (c :: r))
    else (plainN ((c :: r).take 1),1):=rfl
  rw [hm,key]
  rw [own] at hm ⊢
  clear key own hb h
  cases h1:blankB c
  ·cases h2:eqB c 34
   ·cases h3:(eqB c 40 && headB r 42)
    ·have h3':(eqB c 40 && headB (r.take m) 42)=false:=by
      cases h4:eqB c 40
      ·rfl
      ·rw [h4,Bool.true_and] at h3; rw [headB_take h3]; rfl
     cases h4:restB c
     ·cases h5:signB c
      ·simp only [h1,h2,h3,h4,h5,cond_false] at hm
       have:m=0:=by omega
       subst this
       simp only [h3',cond_false]
       rfl
      ·simp only [h1,h2,h3,h4,h5,cond_false,cond_true] at hm
       simp only [h3',cond_false,cond_true]
       rw [passN_take,hm,Nat.min_self,List.take_take,Nat.min_self]
     ·simp only [h1,h2,h3,h4,cond_false,cond_true] at hm
      simp only [h3',cond_false,cond_true]
      rw [passN_take,hm,Nat.min_self,List.take_take,Nat.min_self]
    ·simp only [h1,h2,h3,cond_false,cond_true] at hm
     rw [Bool.and_eq_true] at h3
     have hc:c=40:=eqB_eq (n:=40) h3.1
     cases r with
     | nil=>exact absurd h3.2 (by simp [headB])
     | cons d t =>
      have hd:d=42:=eqB_eq (n:=42) h3.2
      subst hc hd
      have h2:=note_two t
      have hm1:1≤m:=by
       unfold noteN at hm
       simp only at hm
       cases e:(passN nF (0,0) (40 :: 42 :: t) == (40 :: 42 :: t).length) <;> rw [e] at hm <;> simp at hm <;> omega
      rw [headB_take_pos _ _ _ hm1,h3.1,h3.2]
      simp only [Bool.and_self,cond_true,cond_false]
      have:=note_again (40 :: 42 :: t) (by simp)
      rw [hm] at this
      exact this
   ·simp only [h1,h2,cond_false,cond_true] at hm
    simp only [cond_false,cond_true]
    have:=quote_again r
    rw [hm] at this
    exact this
  ·simp only [h1,cond_true] at hm
   simp only [cond_true]
   rw [passN_take,hm,Nat.min_self]
theorem restT_mem (s:ByteArray) (a:Nat) (ha:a≤s.size):∀ t ∈ restT s a,t.a≤s.size∧t=tokAt s t.a:=by
 obtain ⟨m,hm⟩:∃ m,m=s.size - a:=⟨_,rfl⟩
 induction m using Nat.strongRecOn generalizing a with
 | _ m ih =>
  intro t ht
  by_cases h:a < s.size
  ·have hb:=tokAt_bound s a h
   rw [restT_at s a h] at ht
   rcases List.mem_cons.1 ht with rfl | ht
   ·rw [show (tokAt s a).a=a by rw [tokAt_in s a h]]
    exact ⟨ha,rfl⟩
   ·exact ih (s.size - (tokAt s a).e) (by omega) _ hb.2 rfl t ht
  ·have:a=s.size:=by omega
   subst this
   rw [restT_end] at ht
   have:t=tokAt s s.size:=by simpa using ht
   subst this
   rw [tokAt_end]
   exact ⟨Nat.le_refl _,(tokAt_end s).symm⟩
end Go.Proofs.YtmpmfamiegpmgaaGreatDoor

namespace Go.Proofs.YtmpmfamiegpmgaaGreatDoor
open Go.RowKit
set_option maxRecDepth 20000
set_option linter.unusedVariables false
set_option linter.unusedSimpArgs false

/-- The tokens that say something, from a place on, but the end. -/
def saysF (a:Nat) (l:List UInt8):List Tok:=pickT saysB (scanF l.length a l)
/-- No token of these is bad. -/
def goodF (a:Nat) (l:List UInt8):Prop:=∀ t ∈ scanF l.length a l,noBad t=true
def shiftT (d:Nat) (t:Tok):Tok:=⟨t.k,t.a+d,t.e+d⟩
end Go.Proofs.YtmpmfamiegpmgaaGreatDoor
