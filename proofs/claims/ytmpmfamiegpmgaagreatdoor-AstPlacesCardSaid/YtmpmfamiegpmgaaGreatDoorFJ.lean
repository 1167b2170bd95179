/-
  A text's tokens follow one another: plain facts.; A token's own text is one token, of its kind: plain facts.; Two texts with a line end between them: plain facts.
-/
import Derived.Test.YtmpmfamiegpmgaaGreatDoorFB
namespace Go.Proofs.YtmpmfamiegpmgaaGreatDoor
open Go.RowKit
set_option maxRecDepth 20000
set_option linter.unusedVariables false
set_option linter.unusedSimpArgs false
def Chain (n:Nat):Nat→List Tok→Prop
 | _,[]=>False
 | a,t :: r=>(r=[]∧t=⟨0,n,n⟩∧a=n)∨(t.k≠0∧t.a=a∧a < t.e∧t.e≤n∧Chain n t.e r)
def vI (n:Nat) (l:List Tok) (i:Nat):Nat:=match l[i]? with
 | some t=>t.a
 | none=>n
theorem Chain.length {n a:Nat} {l:List Tok} (h:Chain n a l):0 < l.length∧l.length≤n - a+1∧a≤n:=by
 induction l generalizing a with
 | nil=>exact h.elim
 | cons t r ih =>
  rcases h with ⟨h1,_,h2⟩ | ⟨_,_,h3,h4,h5⟩
  ·subst h1; simp; omega
  ·have:=ih h5; simp; omega
theorem Chain.pos0 {n a:Nat} {l:List Tok} (h:Chain n a l):vI n l 0=a:=by
 cases l with
 | nil=>exact h.elim
 | cons t r =>
  rcases h with ⟨_,h1,h2⟩ | ⟨_,h1,_⟩
  ·subst h1; simp [vI,h2]
  ·simpa [vI] using h1
theorem Po (n:Nat) (l:List Tok) (i:Nat) (h:i < l.length):vI n l i=l[i].a:=by simp [vI,h]
theorem yT (n:Nat) (t:Tok) (r:List Tok) (i:Nat):vI n (t :: r) (i+1)=vI n r i:=by simp [vI]
theorem Chain.at {n a:Nat} {l:List Tok} (h:Chain n a l) (i:Nat) (hi:i < l.length) :
  l[i].a=vI n l i∧l[i].e=vI n l (i+1)∧l[i].e≤n∧((i+1=l.length∧l[i].k=0∧l[i].e=l[i].a)∨(i+1 < l.length∧l[i].k≠0∧l[i].a < l[i].e)):=by
 refine ⟨(Po n l i hi).symm,?_⟩
 induction l generalizing a i with
 | nil=>exact h.elim
 | cons t r ih =>
  rcases h with ⟨h1,h2,h3⟩ | ⟨h1,h2,h3,h4,h5⟩
  ·subst h1
   have:i=0:=by simp at hi; omega
   subst this
   subst h2
   simp [vI]
  ·cases i with
   | zero =>
    have hl:=h5.length
    simp only [yT,h5.pos0,List.getElem_cons_zero,List.length_cons]
    exact ⟨by first | trivial | rfl,h4,.inr ⟨by omega,h1,by omega⟩⟩
   | succ i =>
    have:=ih h5 i (by simpa using hi)
    simp only [yT,List.getElem_cons_succ,List.length_cons]
    refine ⟨this.1,this.2.1,?_⟩
    rcases this.2.2 with ⟨e,f⟩ | ⟨e,f⟩
    ·exact .inl ⟨by omega,f⟩
    ·exact .inr ⟨by omega,f⟩
theorem jk {σ:Type} (f:σ→UInt8→σ × Bool) (q:σ) (l:List UInt8) (m:Nat):az f q (l.take m)=min m (az f q l):=by
 induction l generalizing q m with
 | nil=>simp [az]
 | cons c r ih =>
  cases m with
  | zero=>simp [az]
  | succ m =>
   simp only [List.take_succ_cons,az]
   cases (f q c).2
   ·simp
   ·simp only [cond_true,ih]; omega
theorem wB {l:List UInt8} {j:Nat} {x:Int} (h:headB l x=false):headB (l.take j) x=false:=by
 cases l with
 | nil=>simp [headB]
 | cons c r=>cases j with
  | zero=>rfl
  | succ j=>exact h
theorem pI (l:List UInt8) (j:Nat) (x:Int) (h:0 < j):headB (l.take j) x=headB l x:=by
 cases l with
 | nil=>simp [headB]
 | cons c r=>cases j with
  | zero=>omega
  | succ j=>rfl
theorem o8 (l:List UInt8) (n q:Nat):(l.take (n+q)).drop n=(l.drop n).take q:=by
 rw [List.drop_take]; congr 1; omega
theorem Em (r:List UInt8):dQ (r.take ((dQ r).2 - 1))=dQ r:=by
 have hle:=eP qF false r
 unfold dQ
 simp only
 cases h:headB (r.drop (az qF false r)) 34
 ·simp only [cond_false]
  have hm:az qF false r+1+az (aU fK) () (r.drop (az qF false r)) - 1=az qF false r+az (aU fK) () (r.drop (az qF false r)):=by omega
  rw [hm,jk,Nat.min_eq_right (by omega),o8,wB h,jk,Nat.min_self]
  rfl
 ·simp only [cond_true]
  have hm:az qF false r+2 - 1=az qF false r+1:=by omega
  rw [hm,jk,Nat.min_eq_right (by omega),o8,pI _ _ _ (by omega),h]
  rfl
theorem FZ (l:List UInt8) (h:0 < l.length):eU (l.take (eU l).2)=eU l:=by
 have hle:=eP nF (0,0) l
 unfold eU
 simp only
 cases e:(az nF (0,0) l == l.length)
 ·simp only [cond_false]
  have hne:¬ az nF (0,0) l=l.length:=by simpa using e
  rw [jk,Nat.min_eq_right (by omega),List.length_take,Nat.min_eq_left (by omega)]
  have:(az nF (0,0) l == az nF (0,0) l+1)=false:=by simp
  rw [this]
  rfl
 ·simp only [cond_true]
  have hq:az nF (0,0) l=l.length:=by simpa using e
  rw [hq,List.take_length,hq]
  simp
theorem NY (r:List UInt8):2≤az nF (0,0) (40 :: 42 :: r):=by
 have h1:nF (0,0) 40=((0,40),true):=by decide
 have h2:nF (0,40) 42=((1,0),true):=by decide
 simp only [az,h1,h2,cond_true]
 omega
theorem xy {c:UInt8} {n:UInt8} (h:eqB c (n.toNat:Int)=true):c=n:=by
 unfold eqB at h
 rw [xe]
 simpa using h
theorem Jd (l:List UInt8) (h:l≠[]):bf (l.take (bf l).2)=bf l:=by
 cases l with
 | nil=>exact absurd rfl h
 | cons c r =>
  have hb:=jL (c :: r) (by simp)
  obtain ⟨m,hm⟩:∃ m,(bf (c :: r)).2=m+1:=⟨(bf (c :: r)).2 - 1,by omega⟩
  have key:bf ((c :: r).take (m+1))=bif bD c then (1,az (aU bD) () ((c :: r).take (m+1)))
    else bif eqB c 34 then dQ (r.take m)
    else bif eqB c 40 && headB (r.take m) 42 then eU ((c :: r).take (m+1))
    else bif bg c then (df (((c :: r).take (m+1)).take (az (aU bg) () ((c :: r).take (m+1)))),az (aU bg) () ((c :: r).take (m+1)))
    else bif bC c then (df (((c :: r).take (m+1)).take (az (aU bC) () ((c :: r).take (m+1)))),az (aU bC) () ((c :: r).take (m+1)))
    else (df (((c :: r).take (m+1)).take 1),1):=rfl
  have own:bf (c :: r)=bif bD c then (1,az (aU bD) () (c :: r))
    else bif eqB c 34 then dQ r
    else bif eqB c 40 && headB r 42 then eU (c :: r)
    else bif bg c then (df ((c :: r).take (az (aU bg) () (c :: r))),az (aU bg) () (c :: r))
    else bif bC c then (df ((c :: r).take (az (aU bC) () (c :: r))),az (aU bC) () (c :: r))
    else (df ((c :: r).take 1),1):=rfl
  rw [hm,key]
  rw [own] at hm ⊢
  clear key own hb h
  cases h1:bD c
  ·cases h2:eqB c 34
   ·cases h3:(eqB c 40 && headB r 42)
    ·have h3':(eqB c 40 && headB (r.take m) 42)=false:=by
      cases h4:eqB c 40
      ·rfl
      ·rw [h4,Bool.true_and] at h3; rw [wB h3]; rfl
     cases h4:bg c
     ·cases h5:bC c
      ·simp only [h1,h2,h3,h4,h5,cond_false] at hm
       have:m=0:=by omega
       subst this
       simp only [h3',cond_false]
       rfl
      ·simp only [h1,h2,h3,h4,h5,cond_false,cond_true] at hm
       simp only [h3',cond_false,cond_true]
       rw [jk,hm,Nat.min_self,List.take_take,Nat.min_self]
     ·simp only [h1,h2,h3,h4,cond_false,cond_true] at hm
      simp only [h3',cond_false,cond_true]
      rw [jk,hm,Nat.min_self,List.take_take,Nat.min_self]
    ·simp only [h1,h2,h3,cond_false,cond_true] at hm
     rw [Bool.and_eq_true] at h3
     have hc:c=40:=xy (n:=40) h3.1
     cases r with
     | nil=>exact absurd h3.2 (by simp [headB])
     | cons d t =>
      have hd:d=42:=xy (n:=42) h3.2
      subst hc hd
      have h2:=NY t
      have hm1:1≤m:=by
       unfold eU at hm
       simp only at hm
       cases e:(az nF (0,0) (40 :: 42 :: t) == (40 :: 42 :: t).length) <;> rw [e] at hm <;> simp at hm <;> omega
      rw [pI _ _ _ hm1,h3.1,h3.2]
      simp only [Bool.and_self,cond_true,cond_false]
      have:=FZ (40 :: 42 :: t) (by simp)
      rw [hm] at this
      exact this
   ·simp only [h1,h2,cond_false,cond_true] at hm
    simp only [cond_false,cond_true]
    have:=Em r
    rw [hm] at this
    exact this
  ·simp only [h1,cond_true] at hm
   simp only [cond_true]
   rw [jk,hm,Nat.min_self]
theorem Jk (s:ByteArray) (a:Nat) (ha:a≤s.size):∀ t ∈ gQ s a,t.a≤s.size∧t=eH s t.a:=by
 obtain ⟨m,hm⟩:∃ m,m=s.size - a:=⟨_,rfl⟩
 induction m using Nat.strongRecOn generalizing a with
 | _ m ih =>
  intro t ht
  by_cases h:a < s.size
  ·have hb:=pF s a h
   rw [BQ s a h] at ht
   rcases List.mem_cons.1 ht with rfl | ht
   ·rw [show (eH s a).a=a by rw [mO s a h]]
    exact ⟨ha,rfl⟩
   ·exact ih (s.size - (eH s a).e) (by omega) _ hb.2 rfl t ht
  ·have:a=s.size:=by omega
   subst this
   rw [zi] at ht
   have:t=eH s s.size:=by simpa using ht
   subst this
   rw [jP]
   exact ⟨Nat.le_refl _,(jP s).symm⟩
def kM (a:Nat) (l:List UInt8):List Tok:=dO gB (dB l.length a l)
theorem wW (a:Nat) (l:List UInt8) (h:l≠[]):kM a l=dO gB [⟨(bf l).1,a,a+(bf l).2⟩]++kM (a+(bf l).2) (l.drop (bf l).2):=by
 have hb:=jL l h
 unfold kM
 obtain ⟨m,hm⟩:∃ m,l.length=m+1:=⟨l.length - 1,by omega⟩
 rw [hm]
 have he:l.isEmpty=false:=by cases l <;> simp_all
 simp only [dB,he,cond_false]
 rw [show (⟨(bf l).1,a,a+(bf l).2⟩:Tok) :: dB m (a+(bf l).2) (l.drop (bf l).2)=[⟨(bf l).1,a,a+(bf l).2⟩]++dB m (a+(bf l).2) (l.drop (bf l).2) from rfl,kN]
 rw [wJ m (l.drop (bf l).2).length _ _ (by rw [List.length_drop]; omega) (Nat.le_refl _)]
theorem Aq (b:Nat) (T:List UInt8):kM (b+az (aU bD) () T) (T.drop (az (aU bD) () T))=kM b T:=by
 cases T with
 | nil=>rfl
 | cons c r =>
  cases hb:bD c
  ·have:az (aU bD) () (c :: r)=0:=by simp [az,aU,hb]
   rw [this]; rfl
  ·have ht:bf (c :: r)=(1,az (aU bD) () (c :: r)):=by unfold bf; simp only [hb,cond_true]
   rw [wW b (c :: r) (by simp),ht]
   rfl
def aad (a:Nat) (l:List UInt8):Prop:=∀ t ∈ dB l.length a l,iI t=true
def YG (d:Nat) (t:Tok):Tok:=⟨t.k,t.a+d,t.e+d⟩
end Go.Proofs.YtmpmfamiegpmgaaGreatDoor
