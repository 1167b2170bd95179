/-
  The plain parser's branches are right, and each name in a text is one branch's, once.; How large the plain parser's branches are: a branch, all its parts and all their names are fewer than three for each token.; Pieces of texts; the first bad token by the words.
-/
import Derived.Test.YtmpmfamiegpmgaaGreatDoorGI
import Derived.Test.YtmpmfamiegpmgaaGreatDoorGJ
import Derived.Test.YtmpmfamiegpmgaaGreatDoorGS
namespace Go.Proofs.YtmpmfamiegpmgaaGreatDoor
open Go.RowKit
set_option maxRecDepth 20000
set_option linter.unusedVariables false
set_option linter.unusedSimpArgs false
def Pb.fr:Pb→Int | .mk _ _ f _ _ _=>f
def Pb.to:Pb→Int | .mk _ _ _ t _ _=>t
mutual
def Pb.cnt (x:Int):Pb→Nat
 | .mk _ _ _ _ ns ks=>ns.count x+nR x ks
def nR (x:Int):List Pb→Nat
 | []=>0
 | b :: r=>b.cnt x+nR x r
end
mutual
def Pb.Rt:Pb→Prop
 | .mk k _ f t ns ks=>0 < k∧0≤f∧f≤t∧(∀ n ∈ ns,f≤n∧n < t)∧bQ f t ks
def bQ (f t:Int):List Pb→Prop
 | []=>f≤t
 | b :: r=>b.Rt∧f≤b.fr∧bQ b.to t r
end
theorem oD (x:Int) (a b:List Pb):nR x (a++b)=nR x a+nR x b:=by
 induction a with
 | nil=>simp [nR]
 | cons y r ih=>simp [nR,ih]; omega
theorem Pb.Rt.le {b:Pb} (h:b.Rt):0≤b.fr∧b.fr≤b.to:=by
 cases b; simp only [Pb.Rt] at h; exact ⟨h.2.1,h.2.2.1⟩
theorem bQ.le {f t:Int}:∀ {l:List Pb},bQ f t l→f≤t:=by
 intro l
 induction l generalizing f with
 | nil=>intro h; exact h
 | cons b r ih=>intro h; simp only [bQ] at h; have:=ih h.2.2; have:=h.1.le; omega
theorem bQ.low {f f' t:Int} (hf:f'≤f):∀ {l:List Pb},bQ f t l→bQ f' t l:=by
 intro l h
 cases l with
 | nil=>simp only [bQ] at h ⊢; omega
 | cons b r=>simp only [bQ] at h ⊢; exact ⟨h.1,by omega,h.2.2⟩
theorem bQ.cat {m t:Int}:∀ {f:Int} {l r:List Pb},bQ f m l→bQ m t r→bQ f t (l++r):=by
 intro f l
 induction l generalizing f with
 | nil=>intro r h1 h2; simp only [bQ] at h1; exact h2.low h1
 | cons b l ih=>intro r h1 h2; simp only [bQ,List.cons_append] at h1 ⊢; exact ⟨h1.1,h1.2.1,ih h1.2.2 h2⟩
theorem bQ.up {f t t':Int} {l:List Pb} (h:bQ f t l) (ht:t≤t'):bQ f t' l:=by
 have:=bQ.cat (r:=[]) h (by simpa only [bQ] using ht)
 simpa using this
def Src.nm (S:Src) (n:Nat):Bool:=S.kd n == 6 || S.kd n == 7 || S.kd n == 9
structure Cov (S:Src) (n m:Nat) (c:Int→Nat):Prop where
 le:n≤m
 one:∀ x,c x≤1
 inn:∀ x,0 < c x→(n:Int)≤x∧x < (m:Int)
 nm:∀ x:Nat,0 < c (x:Int)→S.nm x=true
 all:∀ x:Nat,n≤x→x < m→S.nm x=true→S.is x [42]=false→0 < c (x:Int)
abbrev iR (S:Src) (n m:Nat):Prop:=Cov S n m fun _=>0
section
variable {S:Src}
theorem Cov.ext {n m:Nat} {c d:Int→Nat} (h:Cov S n m c) (e:∀ x,d x=c x):Cov S n m d:=by
 have:d=c:=funext e
 subst this; exact h
theorem Cov.add {n m k:Nat} {c d:Int→Nat} (h:Cov S n m c) (g:Cov S m k d):Cov S n k fun x=>c x+d x where
 le:=Nat.le_trans h.le g.le
 one x:=by
  rcases Nat.eq_zero_or_pos (c x) with hc | hc
  ·have:=g.one x; omega
  ·rcases Nat.eq_zero_or_pos (d x) with hd | hd
   ·have:=h.one x; omega
   ·have:=h.inn x hc; have:=g.inn x hd; omega
 inn x hx:=by
  have h1:=h.le; have h2:=g.le
  rcases Nat.eq_zero_or_pos (c x) with hc | hc
  ·have:=g.inn x (by omega); omega
  ·have:=h.inn x hc; omega
 nm x hx:=by
  rcases Nat.eq_zero_or_pos (c x) with hc | hc
  ·exact g.nm x (by omega)
  ·exact h.nm x hc
 all x h1 h2 h3 h4:=by
  rcases Nat.lt_or_ge x m with hx | hx
  ·have:=h.all x h1 hx h3 h4; omega
  ·have:=g.all x hx h2 h3 h4; omega
theorem iR.nil (n:Nat):iR S n n:=⟨Nat.le_refl _,fun _=>by omega,fun _ h=>by omega,fun _ h=>by omega,fun x h1 h2=>by omega⟩
theorem Cc {n:Nat} (h:S.nm n=false∨S.is n [42]=true):iR S n (n+1) :=
 ⟨by omega,fun _=>by omega,fun _ h=>by omega,fun _ h=>by omega,fun x h1 h2 h3 h4=>by
  have:x=n:=by omega
  subst this
  rcases h with h | h
  ·rw [h3] at h; cases h
  ·rw [h4] at h; cases h⟩
theorem iR.cat {n m k:Nat} (h:iR S n m) (g:iR S m k):iR S n k:=(h.add g).ext fun _=>rfl
theorem Cov.skip {n m k:Nat} {c:Int→Nat} (h:Cov S n m c) (g:iR S m k):Cov S n k c:=(h.add g).ext fun _=>rfl
theorem iR.then {n m k:Nat} {c:Int→Nat} (g:iR S n m) (h:Cov S m k c):Cov S n k c:=(g.add h).ext fun x=>by simp
def cnN (l:List Nat) (x:Int):Nat:=(l.map fun y:Nat=>(y:Int)).count x
theorem yY (x:Int):cnN [] x=0:=rfl
theorem uS (a b:List Nat) (x:Int):cnN (a++b) x=cnN a x+cnN b x:=by simp [cnN,List.count_append]
theorem uM {n:Nat} (h:S.nm n=true):Cov S n (n+1) (cnN [n]):=by
 have e:∀ x:Int,cnN [n] x=if x=n then 1 else 0:=fun x=>by
  by_cases hx:x=(n:Int)
  ·subst hx; simp [cnN]
  ·simp only [cnN,List.map_cons,List.map_nil,hx,if_false]
   rw [List.count_cons_of_ne (fun e=>hx e.symm)]; rfl
 refine ⟨by omega,fun x=>by rw [e]; split <;> omega,fun x hx=>?_,fun x hx=>?_,fun x h1 h2 h3 _=>?_⟩
 ·rw [e] at hx; split at hx <;> omega
 ·rw [e] at hx
  split at hx
  ·have:x=n:=by omega
   subst this; exact h
  ·omega
 ·have:x=n:=by omega
  subst this;rw [e,if_pos rfl]; omega
def Ret {α:Type} (o:Out α) (P:α→Nat→Prop):Prop:=∀ x m,o=.ok x m→P x m
theorem af {α β:Type} {o:Out α} {f:α→Nat→Out β} {P:α→Nat→Prop} {Q:β→Nat→Prop} (h:Ret o P) (hf:∀ x m,P x m→Ret (f x m) Q):Ret (o.bind f) Q:=by
 intro x m e
 cases o with
 | ok a n=>exact hf a n (h a n rfl) x m e
 | form n=>cases e
 | deep n=>cases e
 | dry=>cases e
theorem ah {α:Type} {x:α} {m:Nat} {P:α→Nat→Prop} (h:P x m):Ret (.ok x m) P:=by
 intro y k e
 injection e with e1 e2
 subst e1 e2; exact h
theorem iV {α:Type} {n:Nat} {P:α→Nat→Prop}:Ret (.form n:Out α) P:=fun _ _ e=>by cases e
theorem ve {α:Type} {n:Nat} {P:α→Nat→Prop}:Ret (.deep n:Out α) P:=fun _ _ e=>by cases e
theorem bI {α:Type} {P:α→Nat→Prop}:Ret (.dry:Out α) P:=fun _ _ e=>by cases e
theorem ak {α:Type} {c:Bool} {a b:Out α} {P:α→Nat→Prop} (ha:c=true→Ret a P) (hb:c=false→Ret b P):Ret (bif c then a else b) P:=by
 cases c
 ·exact hb rfl
 ·exact ha rfl
theorem Ret.mono {α:Type} {o:Out α} {P Q:α→Nat→Prop} (h:Ret o P) (hq:∀ x m,P x m→Q x m):Ret o Q:=fun x m e=>hq x m (h x m e)
structure QB (S:Src) (n:Nat) (b:Pb) (m:Nat):Prop where
 rt:b.Rt
 lo:(n:Int)≤b.fr
 hi:b.to≤(m:Int)
 cov:Cov S n m fun x=>b.cnt x
structure QL (S:Src) (n:Nat) (l:List Pb) (m:Nat):Prop where
 ch:bQ n m l
 cov:Cov S n m fun x=>nR x l
structure QN (S:Src) (n:Nat) (l:List Nat) (m:Nat):Prop where
 inn:∀ x ∈ l,n≤x∧x < m
 cov:Cov S n m (cnN l)
theorem QL.nil (n:Nat):QL S n [] n:=⟨by simp [bQ],(iR.nil n).ext fun _=>rfl⟩
theorem QL.skip {n m k:Nat} {l:List Pb} (h:QL S n l m) (g:iR S m k):QL S n l k:=⟨h.ch.up (by have:=g.le; omega),h.cov.skip g⟩
theorem iR.ql {n m k:Nat} {l:List Pb} (g:iR S n m) (h:QL S m l k):QL S n l k:=⟨h.ch.low (by have:=g.le; omega),g.then h.cov⟩
theorem QL.cat {n m k:Nat} {l r:List Pb} (h:QL S n l m) (g:QL S m r k):QL S n (l++r) k:=⟨h.ch.cat g.ch,(h.cov.add g.cov).ext fun x=>oD x l r⟩
theorem QB.ql {n m:Nat} {b:Pb} (h:QB S n b m):QL S n [b] m:=⟨by simp only [bQ]; exact ⟨h.rt,h.lo,h.hi⟩,h.cov.ext fun x=>by simp [nR]⟩
theorem QL.one {n m:Nat} {b:Pb} (h:QL S n [b] m):QB S n b m:=by
 have hc:=h.ch;simp only [bQ] at hc;exact ⟨hc.1,hc.2.1,hc.2.2,h.cov.ext fun x=>by simp [nR]⟩
theorem iR.qn {n m k:Nat} {l:List Nat} (g:iR S n m) (h:QN S m l k):QN S n l k:=⟨fun x hx=>by have:=h.inn x hx; have:=g.le; omega,g.then h.cov⟩
theorem QN.cat {n m k:Nat} {l r:List Nat} (h:QN S n l m) (g:QN S m r k):QN S n (l++r) k :=
 ⟨fun x hx=>by
  have h1:=h.cov.le; have h2:=g.cov.le
  rcases List.mem_append.1 hx with hx | hx
  ·have:=h.inn x hx; omega
  ·have:=g.inn x hx; omega,(h.cov.add g.cov).ext fun x=>uS l r x⟩
theorem lN {k:Int} {n m:Nat} {ns:List Nat} {l:List Pb} {c:Int→Nat} (hk:0 < k) (hn:∀ x ∈ ns,n≤x∧x < m) (hl:bQ n m l) (hc:Cov S n m c) (he:∀ x,cnN ns x+nR x l=c x):QB S n (node k n m ns l) m:=by
 refine ⟨?_,?_,?_,hc.ext fun x=>?_⟩
 ·have:=hc.le
  simp only [node,Pb.Rt];refine ⟨hk,by omega,by omega,fun x hx=>?_,hl⟩
  obtain ⟨y,hy,rfl⟩:=List.mem_map.1 hx
  have:=hn y hy; omega
 ·simp [node,Pb.fr]
 ·simp [node,Pb.to]
 ·simp only [node,Pb.cnt]; exact he x
theorem dO {k:Int} {n m:Nat} {l:List Pb} (hk:0 < k) (h:QL S n l m):QB S n (node k n m [] l) m :=
 lN hk (fun x hx=>by cases hx) h.ch h.cov (fun x=>by simp [yY])
theorem iW {k:Int} {n m:Nat} {ns:List Nat} (hk:0 < k) (h:QN S n ns m):QB S n (node k n m ns []) m :=
 lN hk h.inn (by simp only [bQ]; have:=h.cov.le; omega) h.cov (fun x=>by simp [nR])
theorem ik {k:Int} {n j m:Nat} {ns:List Nat} {l:List Pb} (hk:0 < k) (h:QN S n ns j) (g:QL S j l m):QB S n (node k n m ns l) m :=
 lN hk (fun x hx=>by have:=h.inn x hx; have:=g.cov.le; omega) (g.ch.low (by have:=h.cov.le; omega)) (h.cov.add g.cov) (fun x=>rfl)
theorem GK {k:Int} {n j m:Nat} {ns:List Nat} {l:List Pb} (hk:0 < k) (g:QL S n l j) (h:QN S j ns m):QB S n (node k n m ns l) m :=
 lN hk (fun x hx=>by have:=h.inn x hx; have:=g.cov.le; omega) (g.ch.up (by have:=h.cov.le; omega)) (g.cov.add h.cov) (fun x=>Nat.add_comm _ _)
theorem Nk {k:Int} {n i j m:Nat} {ns:List Nat} {l r:List Pb} (hk:0 < k) (g:QL S n l i) (h:QN S i ns j) (g2:QL S j r m):QB S n (node k n m ns (l++r)) m:=by
 have h1:=g.cov.le; have h2:=h.cov.le; have h3:=g2.cov.le
 exact lN hk (fun x hx=>by have:=h.inn x hx; omega) ((g.ch.up (by omega)).cat (g2.ch)) ((g.cov.add h.cov).add g2.cov) (fun x=>by rw [oD]; omega)
theorem QB.marked {n m:Nat} {b:Pb} {k:Int} (h:QB S n b m):QB S n (marked k b) m:=by
 obtain ⟨h1,h2,h3,h4⟩:=h
 cases b
 exact ⟨by simpa only [Go.Proofs.YtmpmfamiegpmgaaGreatDoor.marked,Pb.Rt] using h1,h2,h3,h4.ext fun x=>by simp only [Go.Proofs.YtmpmfamiegpmgaaGreatDoor.marked,Pb.cnt]⟩
theorem ut {k:Int} {n m:Nat} {l:List Pb} (hk:0 < k) (h:QL S n l m):QB S n (fB l k n m []) m:=by
 unfold fB
 split
 ·exact h.one
 ·exact dO hk h
end
def vP (t:List UInt8):Bool:=t == [42] || !((dJ t).1 == 6 || (dJ t).1 == 7 || (dJ t).1 == 9)
theorem LY (ask:Int→Bool) (l:List Tok):∀ t ∈ gV ask l,t ∈ l:=by
 induction l with
 | nil=>intro t h; exact h
 | cons x r ih =>
  intro t h;unfold gV at h
  cases hx:ask x.k <;> rw [hx] at h
  ·exact List.mem_cons_of_mem _ (ih t h)
  ·rcases List.mem_cons.1 h with rfl | h
   ·exact List.mem_cons_self
   ·exact List.mem_cons_of_mem _ (ih t h)
theorem Tt {S:Src} (T:S.ts=bC S.s) (n:Nat):S.kd n=(dJ (S.tx n).data.toList).1:=by
 unfold Src.kd Src.tx
 cases h:S.ts[n]? with
 | none=>rfl
 | some t =>
  have hm:t ∈ sF S.s:=by
   have:t ∈ S.ts:=List.mem_of_getElem? h
   rw [T] at this;unfold bC at this;exact LY _ _ _ this
  obtain ⟨h1,h2⟩:=Jl S.s 0 (by omega) t hm
  simp only
  by_cases hlt:t.a < S.s.size
  ·have e:=lM S.s t.a hlt
   rw [← h2] at e;have hne:S.s.data.toList.drop t.a≠[]:=by rw [drop_at S.s t.a hlt]; simp
   have ha:=I5 (S.s.data.toList.drop t.a) hne;have ek:t.k=(dJ (S.s.data.toList.drop t.a)).1:=congrArg Tok.k e;have ee:t.e=t.a+(dJ (S.s.data.toList.drop t.a)).2:=congrArg Tok.e e;rw [ee,extract_drop,ha,ek]
  ·have:t.a=S.s.size:=by omega
   rw [this,jd] at h2;have hk:t.k=0:=congrArg Tok.k h2;have he:t.e=S.s.size:=congrArg Tok.e h2;rw [hk,he,this]
   have:(S.s.extract S.s.size S.s.size).data.toList=[]:=by
    apply List.eq_nil_of_length_eq_zero
    simp
   rw [this]; rfl
section
variable {S:Src} (T:S.ts=bC S.s)
include T
theorem bz {t:List UInt8} (ht:vP t=true) {n:Nat} (h:S.is n t=true):iR S n (n+1):=by
 have e:(S.tx n).data.toList=t:=by unfold Src.is at h; simpa using h
 have hk:=Tt T n;rw [e] at hk;unfold vP at ht;refine Cc ?_
 rcases Bool.or_eq_true_iff.1 ht with h1 | h1
 ·right; rw [beq_iff_eq.1 h1] at h; exact h
 ·left; unfold Src.nm; rw [hk]; simpa using h1
omit T in
theorem qW {n:Nat} {k:Int} (h:(S.kd n == k)=true) (hk:(k == 6 || k == 7 || k == 9)=false):iR S n (n+1):=by
 refine Cc (.inl ?_)
 unfold Src.nm;rw [beq_iff_eq.1 h]; exact hk
theorem bW {t:List UInt8} (ht:vP t=true) (n:Nat):Ret (S.need t n) fun _ m=>iR S n m:=by
 unfold Src.need;exact ak (fun h=>ah (bz T ht h)) (fun _=>iV)
omit T in
theorem fH {ks:List Int} (hk:∀ k ∈ ks,(k == 6 || k == 7 || k == 9)=true) (n:Nat):Ret (S.take ks n) fun x m=>QN S n [x] m:=by
 unfold Src.take;refine ak (fun h=>ah ⟨fun x hx=>?_,uM ?_⟩) (fun _=>iV)
 ·have:x=n:=by simpa using hx
  omega
 ·exact hk _ (by simpa using h)
omit T in
theorem GN (n:Nat):Ret (S.take [8] n) fun _ m=>iR S n m:=by
 unfold Src.take;refine ak (fun h=>ah (qW (k:=8) ?_ rfl)) (fun _=>iV)
 simpa using h
theorem Me {ks:List Int} (hk:∀ k ∈ ks,(k == 6 || k == 7 || k == 9)=true) (p:Nat):∀ (f:Nat) (acc:List Nat) (n:Nat),QN S p acc n→Ret (S.pathL ks f acc n) fun l m=>QN S p l m:=by
 intro f
 induction f with
 | zero=>intro acc n _; exact bI
 | succ f ih =>
  intro acc n h;unfold Src.pathL;refine ak (fun hc=>?_) (fun _=>ah h)
  simp only [Bool.and_eq_true] at hc;have hs:=bz T (t:=[46]) (by kernel_rfl) hc.2;exact af (fH hk (n+1)) (fun x m hx=>ih _ _ (h.cat (hs.qn hx)))
theorem oK {ks:List Int} (hk:∀ k ∈ ks,(k == 6 || k == 7 || k == 9)=true) (n:Nat):Ret (S.path ks n) fun l m=>QN S n l m:=by
 unfold Src.path;exact af (fH hk n) (fun x m hx=>Me T hk n _ _ _ hx)
theorem kT (n:Nat):Ret (S.typePath n) fun l m=>QN S n l m:=by
 unfold Src.typePath;exact af (oK T (by decide) n) (fun p m hp=>ak (fun _=>ah hp) (fun _=>iV))
theorem uj (n:Nat):Ret (S.value n) fun x m=>QN S n [x] m:=by
 unfold Src.value;refine ak (fun h=>?_) (fun _=>fH (by decide) n)
 exact (fH (by decide) (n+1)).mono fun x m hx=>(bz T (by kernel_rfl) h).qn hx
theorem OY {mark:List UInt8} (hm:vP mark=true) {read:Nat→Out Pb} (hr:∀ k,Ret (read k) fun b m=>QB S k b m) (p:Nat):∀ (f:Nat) (acc:List Pb) (n:Nat),QL S p acc n→Ret (nX S mark read f acc n) fun l m=>QL S p l m:=by
 intro f
 induction f with
 | zero=>intro acc n _; exact bI
 | succ f ih =>
  intro acc n h;unfold nX;refine ak (fun hc=>?_) (fun _=>ah h)
  exact af (hr (n+1)) (fun b m hb=>ih _ _ (h.cat ((bz T hm hc).ql hb.ql)))
theorem ni (F:Nat) {mark:List UInt8} (hm:vP mark=true) {read:Nat→Out Pb} (hr:∀ k,Ret (read k) fun b m=>QB S k b m) (n:Nat):Ret (gK S F mark read n) fun l m=>QL S n l m:=by
 unfold gK;exact af (hr n) (fun b m hb=>OY T hm hr n F [b] m hb.ql)
theorem A7 (n:Nat) (h:((S.colon n).1 == 0)=false):iR S n (n+1):=by
 unfold Src.colon at h
 cases h1:S.is n [58]
 ·cases h2:S.is n [58,62]
  ·rw [h1,h2] at h; cases h
  ·exact bz T (by kernel_rfl) h2
 ·exact bz T (by kernel_rfl) h1
section
variable {F:Nat} {rec:Nt→Nat→Nat→Out Pb} {d:Nat} (hrec:∀ nt k,S.may nt k→Ret (rec nt d k) fun b m=>QB S k b m)
include hrec
theorem yR (n:Nat):Ret (dZ S F rec d n) fun b m=>QB S n b m:=by
 unfold dZ;refine ak (fun h=>ah (dO (by decide) ((QL.nil n).skip (qW h rfl)))) (fun _=>ak (fun h=>?_) (fun _=>?_))
 ·refine af (ni T F (by kernel_rfl) (fun k=>hrec .ty k trivial) (n+1)) (fun l m hl=>?_)
  refine af (bW T (by kernel_rfl) m) (fun _ m2 h2=>?_)
  have hl2:=(bz T (by kernel_rfl) h).ql (hl.skip h2);unfold qH
  split
  ·exact ah hl2.one
  ·exact af (kT T m2) (fun p m3 hp=>ah (GK (by decide) hl2 hp))
 ·exact af (kT T n) (fun p m3 hp=>ah (iW (by decide) hp))
theorem CJ (n:Nat):∀ (f:Nat) (b:Pb) (m:Nat),QB S n b m→Ret (dX S n f b m) fun b m=>QB S n b m:=by
 have _:=hrec;intro f
 induction f with
 | zero=>intro b m _; exact bI
 | succ f ih =>
  intro b m h;unfold dX;exact ak (fun _=>af (kT T m) (fun p m1 hp=>ih _ _ (GK (by decide) h.ql hp))) (fun _=>ah h)
theorem CV (n:Nat):Ret (dK S F rec d n) fun b m=>QB S n b m:=by
 unfold dK;exact af (yR T hrec n) (fun b m hb=>CJ T hrec n F b m hb)
theorem AZ (n:Nat):Ret (fE S F rec d n) fun b m=>QB S n b m:=by
 unfold fE;exact af (ni T F (by kernel_rfl) (CV T hrec) n) (fun l m hl=>ah (ut (by decide) hl))
theorem Tv (n:Nat):Ret (tyO S F rec d n) fun b m=>QB S n b m:=by
 unfold tyO;refine af (AZ T hrec n) (fun b m hb=>ak (fun h=>?_) (fun _=>ah hb))
 exact af (hrec .ty (m+1) trivial) (fun c m2 hc=>ah (dO (by decide) (hb.ql.cat ((bz T (by kernel_rfl) h).ql hc.ql))))
omit hrec in
theorem II {fr n:Nat} (hs:iR S fr n) {member:Nat→Out Pb} (hm:∀ k,Ret (member k) fun b m=>QB S k b m):Ret (je S F fr member n) fun b m=>QB S fr b m:=by
 unfold je;refine ak (fun h=>ah (dO (by decide) ((QL.nil fr).skip (hs.cat (bz T (by kernel_rfl) h))))) (fun _=>?_)
 refine af (ni T F (by kernel_rfl) hm n) (fun l m hl=>?_)
 exact af (bW T (by kernel_rfl) m) (fun _ m2 h2=>ah (ut (by decide) (hs.ql (hl.skip h2))))
omit hrec in
theorem yj {named:Int} (hk:0 < named) {member:Nat→Out Pb} (hm:∀ k,Ret (member k) fun b m=>QB S k b m) (n:Nat):Ret (plainO S F named member n) fun b m=>QB S n b m:=by
 unfold plainO;refine ak (fun h=>ah (dO (by decide) ((QL.nil n).skip (qW h rfl)))) (fun _=>ak (fun h=>ah (dO (by decide) ((QL.nil n).skip (qW h rfl)))) (fun _=>ak (fun h=>?_) (fun _=>?_)))
 ·exact II T (bz T (by kernel_rfl) h) hm
 ·exact af (uj T n) (fun x m hx=>ah (iW hk hx))
theorem jk (n:Nat):Ret (bZ S F rec d n) fun b m=>QB S n b m:=by
 unfold bZ;refine ak (fun h=>ah (dO (by decide) ((QL.nil n).skip (bz T (by kernel_rfl) h)))) (fun _=>ak (fun _=>?_) (fun _=>yj T (by decide) (fun k=>hrec .pat k trivial) n))
 exact af (oK T (by decide) n) (fun p m hp=>ah (iW (by decide) hp))
theorem Pz (n:Nat):Ret (qL S F rec d n) fun b m=>QB S n b m:=by
 unfold qL;refine ak (fun h=>?_) (fun _=>ak (fun _=>?_) (fun _=>jk T hrec n))
 ·simp only [Bool.and_eq_true,beq_iff_eq] at h
  have h1:QN S n [n] (n+1):=⟨fun x hx=>by have:x=n:=(by simpa using hx); omega,uM (by unfold Src.nm; rw [h.1]; rfl)⟩;exact af (hrec .pat (n+2) trivial) (fun b m hb=>ah (ik (by decide) h1 ((bz T (by kernel_rfl) h.2).ql hb.ql)))
 ·refine af (oK T (by decide) n) (fun p m hp=>ak (fun _=>?_) (fun _=>ah (iW (by decide) hp)))
  exact af (jk T hrec m) (fun b m2 hb=>ah (ik (by decide) hp hb.ql))
theorem NI (a p:Nat):∀ (f:Nat) (acc:List Pb) (n:Nat),QL S p acc n→Ret (mf S rec d a f acc n) fun l m=>QL S p l m:=by
 intro f
 induction f with
 | zero=>intro acc n _; exact bI
 | succ f ih =>
  intro acc n h;unfold mf;refine ak (fun hc=>ih _ _ (h.skip (bz T (by kernel_rfl) hc))) (fun _=>ak (fun hd=>?_) (fun _=>ah h))
  exact af (hrec (.dec a) n hd) (fun b m hb=>ih _ _ (h.cat hb.ql))
theorem wB (a n:Nat):Ret (iy S F rec d a n) fun l m=>QL S n l m:=NI T hrec a n F [] n (QL.nil n)
theorem pO (a n:Nat):Ret (gz S F rec d a n) fun b m=>QB S n b m:=by
 unfold gz;exact af (wB T hrec a n) (fun l m hl=>ah (dO (by decide) hl))
theorem Bq (n:Nat):Ret (iZ S F rec d n) fun b m=>QB S n b m:=by
 unfold iZ;refine ak (fun _=>?_) (fun _=>ak (fun h=>?_) (fun _=>yj T (by decide) (fun k=>hrec .exp k trivial) n))
 ·exact af (oK T (by decide) n) (fun p m hp=>ak (fun _=>ah (iW (by decide) hp)) (fun _=>ah (iW (by decide) hp)))
 ·refine af (pO T hrec 0 (n+1)) (fun ds m hd=>?_)
  refine af (bW T (by kernel_rfl) m) (fun _ m2 h2=>?_)
  refine af (hrec .exp m2 trivial) (fun e m3 he=>?_)
  exact af (bW T (by kernel_rfl) m3) (fun _ m4 h4=>ah (dO (by decide) (((bz T (by kernel_rfl) h).ql hd.ql).cat (h2.ql (he.ql.skip h4)))))
theorem Le (p:Nat):∀ (f:Nat) (acc:List Pb) (n:Nat),QL S p acc n→Ret (jJ S F rec d f acc n) fun l m=>QL S p l m:=by
 intro f
 induction f with
 | zero=>intro acc n _; exact bI
 | succ f ih =>
  intro acc n h;unfold jJ;exact ak (fun _=>af (Bq T hrec n) (fun b m hb=>ih _ _ (h.cat hb.ql))) (fun _=>ah h)
theorem Dv (n:Nat):Ret (lK S F rec d n) fun b m=>QB S n b m:=by
 unfold lK;refine af (Bq T hrec n) (fun b m hb=>?_)
 exact af (Le T hrec n F [b] m hb.ql) (fun l m2 hl=>ah (ut (by decide) hl))
def QI (S:Src) (n:Nat) (l:List Nat × List Pb) (m:Nat):Prop:=l.2.length=l.1.length+1∧bQ n m l.2∧(∀ x ∈ l.1,n≤x∧x < m)∧Cov S n m fun x=>cnN l.1 x+nR x l.2
theorem Ik (p:Nat):∀ (f:Nat) (sg:List Nat) (acc:List Pb) (n:Nat),QI S p (sg,acc) n→Ret (jG S F rec d f sg acc n) fun l m=>QI S p l m:=by
 intro f
 induction f with
 | zero=>intro sg acc n _; exact bI
 | succ f ih =>
  intro sg acc n h;unfold jG;refine ak (fun _=>?_) (fun _=>ah h)
  refine af (fH (by decide) n) (fun x m hx=>af (Dv T hrec m) (fun b m2 hb=>ih _ _ _ ?_))
  obtain ⟨h1,h2,h3,h4⟩:=h;have i1:=h4.le; have i2:=hx.cov.le; have i3:=hb.cov.le
  have h1':acc.length=sg.length+1:=h1;have h3':∀ x ∈ sg,p≤x∧x < n:=h3
  refine ⟨by simp only [List.length_append,List.length_singleton]; omega,(h2.up (by omega)).cat hb.ql.ch,fun y hy=>?_,((h4.add hx.cov).add hb.cov).ext fun y=>?_⟩
  ·rcases List.mem_append.1 hy with hy | hy
   ·have:=h3' y hy; omega
   ·have:=hx.inn y hy; omega
  ·simp only [uS,oD,nR]; omega
theorem H6 (n:Nat):Ret (iK S F rec d n) fun b m=>QB S n b m:=by
 unfold iK;refine af (Dv T hrec n) (fun b m hb=>?_)
 refine af (Ik T hrec n F [] [b] m ⟨rfl,hb.ql.ch,fun x hx=>(by cases hx),hb.ql.cov.ext fun x=>by simp [yY]⟩) (fun l m2 hl=>ah ?_)
 obtain ⟨sg,ks⟩:=l;obtain ⟨h1,h2,h3,h4⟩:=hl;have h1:ks.length=sg.length+1:=h1;have h2:bQ n m2 ks:=h2;have h4:Cov S n m2 fun x=>cnN sg x+nR x ks:=h4
 show QB S n (fB ks 37 n m2 sg) m2
 unfold fB
 split
 ·next b =>
  have h1:1=sg.length+1:=h1
  have:sg=[]:=List.length_eq_zero_iff.1 (by omega)
  subst this;exact QL.one ⟨h2,h4.ext fun x=>by simp [yY]⟩
 ·exact lN (by decide) h3 h2 h4 (fun _=>rfl)
theorem vX {k:Int} (hk:0 < k) {fr n:Nat} (hs:iR S fr n):Ret (gy S rec d k fr n) fun b m=>QB S fr b m:=by
 unfold gy;refine af (hrec .pat n trivial) (fun p m hp=>?_)
 refine af (bW T (by kernel_rfl) m) (fun _ m2 h2=>?_)
 exact af (hrec .exp m2 trivial) (fun e m3 he=>ah (dO hk ((hs.ql hp.ql).cat (h2.ql he.ql))))
theorem PE (n:Nat):Ret (yU S rec d n) fun b m=>QB S n b m:=vX T hrec (by decide) (iR.nil n)
theorem O9 (n:Nat):Ret (qE S F rec d n) fun b m=>QB S n b m:=by
 unfold qE;refine ak (fun h=>?_) (fun _=>ak (fun h=>?_) (fun _=>ak (fun h=>?_) (fun _=>H6 T hrec n)))
 ·refine af (hrec .exp (n+1) trivial) (fun a m ha=>?_)
  refine af (bW T (by kernel_rfl) m) (fun _ m2 h2=>?_)
  refine af (hrec .exp m2 trivial) (fun b m3 hb=>?_)
  refine af (bW T (by kernel_rfl) m3) (fun _ m4 h4=>?_)
  exact af (hrec .exp m4 trivial) (fun c m5 hc=>ah (dO (by decide) (((bz T (by kernel_rfl) h).ql ha.ql).cat ((h2.ql hb.ql).cat (h4.ql hc.ql)))))
 ·refine af (hrec .exp (n+1) trivial) (fun a m ha=>?_)
  refine af (bW T (by kernel_rfl) m) (fun _ m2 h2=>?_)
  exact af (ni T F (by kernel_rfl) (PE T hrec) m2) (fun l m3 hl=>ah (dO (by decide) (((bz T (by kernel_rfl) h).ql ha.ql).cat (h2.ql hl))))
 ·exact vX T hrec (by decide) (bz T (by kernel_rfl) h)
omit hrec in
theorem MV (p:Nat):∀ (f n:Nat),iR S p n→Ret (lg S f n) fun _ m=>iR S p m:=by
 intro f
 induction f with
 | zero=>intro n _; exact bI
 | succ f ih =>
  intro n h;unfold lg;exact ak (fun hc=>af (GN (n+1)) (fun _ m hm=>ih _ ((h.cat (bz T (by kernel_rfl) hc)).cat hm))) (fun _=>ah h)
omit hrec in
theorem mZ (n:Nat):Ret (cO S F n) fun x m=>QN S n [x] m:=by
 unfold cO;refine ak (fun h=>?_) (fun _=>ak (fun h=>?_) (fun _=>fH (by decide) n))
 ·exact (fH (by decide) (n+1)).mono fun x m hx=>(qW h rfl).qn hx
 ·refine af (GN (n+1)) (fun _ m hm=>?_)
  refine af (MV T (n+1) F m hm) (fun _ m2 h2=>?_)
  refine af (bW T (by kernel_rfl) m2) (fun _ m3 h3=>?_)
  exact (fH (by decide) m3).mono fun x m hx=>((bz T (by kernel_rfl) h).cat (h2.cat h3)).qn hx
theorem PK (n:Nat):Ret (o5 S rec d n) fun b m=>QB S n b m:=by
 unfold o5;refine af (fH (by decide) n) (fun x m hx=>ak (fun h=>?_) (fun _=>ah (iW (by decide) hx)))
 exact af (hrec .ty (m+1) trivial) (fun b m2 hb=>ah (ik (by decide) hx ((bz T (by kernel_rfl) h).ql hb.ql)))
theorem Iu (n:Nat):Ret (iC S F rec d n) fun b m=>QB S n b m:=by
 unfold iC;refine af (mZ T n) (fun x m hx=>?_)
 refine af (bW T (by kernel_rfl) m) (fun _ m2 h2=>?_)
 exact af (ni T F (by kernel_rfl) (PK T hrec) m2) (fun l m3 hl=>ah (ik (by decide) hx (h2.ql hl)))
theorem o9 {fr n:Nat} (hs:iR S fr n):Ret (dh S F rec d fr n) fun b m=>QB S fr b m:=by
 unfold dh;exact af (ni T F (by kernel_rfl) (Iu T hrec) n) (fun l m hl=>ah (dO (by decide) (hs.ql hl)))
theorem LG (n:Nat):Ret (l7 S F rec d n) fun b m=>QB S n b m:=by
 unfold l7;refine ak (fun h=>?_) (fun _=>ak (fun h=>?_) (fun _=>ak (fun h=>?_) (fun _=>ak (fun h=>?_) (fun _=>?_))))
 ·refine af (uj T (n+1)) (fun x m hx=>?_)
  refine af (bW T (by kernel_rfl) m) (fun _ m2 h2=>?_)
  exact af (hrec .ty m2 trivial) (fun b m3 hb=>ah (ik (by decide) ((bz T (by kernel_rfl) h).qn hx) (h2.ql hb.ql)))
 ·refine af (mZ T (n+1)) (fun x m hx=>ak (fun h2=>?_) (fun _=>ah (iW (by decide) ((bz T (by kernel_rfl) h).qn hx))))
  exact af (hrec .ty (m+1) trivial) (fun b m3 hb=>ah (ik (by decide) ((bz T (by kernel_rfl) h).qn hx) ((bz T (by kernel_rfl) h2).ql hb.ql)))
 ·exact o9 T hrec (bz T (by kernel_rfl) h)
 ·refine af (fH (by decide) (n+1)) (fun x m hx=>?_)
  refine af (bW T (by kernel_rfl) m) (fun _ m2 h2=>?_)
  exact af (hrec .sig m2 trivial) (fun b m3 hb=>ah (ik (by decide) ((bz T (by kernel_rfl) h).qn hx) (h2.ql hb.ql)))
 ·refine af (bW T (by kernel_rfl) n) (fun _ m2 h2=>?_)
  exact af (hrec .sig m2 trivial) (fun b m3 hb=>ah (dO (by decide) (h2.ql hb.ql)))
theorem Ij (p:Nat):∀ (f:Nat) (acc:List Pb) (n:Nat),QL S p acc n→Ret (jf S F rec d f acc n) fun l m=>QL S p l m:=by
 intro f
 induction f with
 | zero=>intro acc n _; exact bI
 | succ f ih =>
  intro acc n h;unfold jf;refine ak (fun hc=>ah (h.skip (bz T (by kernel_rfl) hc))) (fun _=>ak (fun hc=>ih _ _ (h.skip (bz T (by kernel_rfl) hc))) (fun _=>?_))
  exact af (LG T hrec n) (fun b m hb=>ih _ _ (h.cat hb.ql))
theorem BG (n:Nat):Ret (fC S F rec d n) fun b m=>QB S n b m:=by
 unfold fC;refine ak (fun h=>?_) (fun _=>af (fH (by decide) n) (fun x m hx=>ah (iW (by decide) hx)))
 exact af (Ij T hrec (n+1) F [] (n+1) (QL.nil _)) (fun l m hl=>ah (dO (by decide) ((bz T (by kernel_rfl) h).ql hl)))
theorem Jn (p:Nat):∀ (f:Nat) (b:Pb) (n:Nat),QB S p b n→Ret (jE S rec d p f b n) fun b m=>QB S p b m:=by
 intro f
 induction f with
 | zero=>intro b n _; exact bI
 | succ f ih =>
  intro b n h;unfold jE;refine ak (fun hc=>?_) (fun _=>ah h)
  refine af (bW T (by kernel_rfl) (n+1)) (fun _ m h1=>?_)
  refine af (kT T m) (fun p m2 hp=>?_)
  refine af (bW T (by kernel_rfl) m2) (fun _ m3 h3=>?_)
  exact af (hrec .ty m3 trivial) (fun c m4 hb=>ih _ _ (Nk (l:=[b]) (r:=[c]) (by decide) (h.ql.skip ((bz T (by kernel_rfl) hc).cat h1)) hp (h3.ql hb.ql)))
theorem Px (n:Nat):Ret (qQ S F rec d n) fun b m=>QB S n b m:=by
 unfold qQ;exact af (BG T hrec n) (fun b m hb=>Jn T hrec n F b m hb)
theorem Bc (n:Nat):Ret (fF S F rec d n) fun b m=>QB S n b m:=by
 unfold fF;refine ak (fun h=>?_) (fun _=>ak (fun h=>?_) (fun _=>af (oK T (by decide) n) (fun p m hp=>ah (iW (by decide) hp))))
 ·refine af (wB T hrec 1 (n+1)) (fun l m hl=>?_)
  exact af (bW T (by kernel_rfl) m) (fun _ m2 h2=>ah (dO (by decide) ((bz T (by kernel_rfl) h).ql (hl.skip h2))))
 ·simp only [Bool.and_eq_true,beq_iff_eq] at h
  have h1:QN S n [n] (n+1):=⟨fun x hx=>by have:x=n:=(by simpa using hx); omega,uM (by unfold Src.nm; rw [h.1]; rfl)⟩;refine af (hrec .str (n+2) trivial) (fun b m hb=>?_)
  exact af (bW T (by kernel_rfl) m) (fun _ m2 h2=>ah (ik (by decide) h1 ((bz T (by kernel_rfl) h.2).ql (hb.ql.skip h2))))
theorem NH (p:Nat):∀ (f:Nat) (b:Pb) (n:Nat),QB S p b n→Ret (nH S rec d p f b n) fun b m=>QB S p b m:=by
 intro f
 induction f with
 | zero=>intro b n _; exact bI
 | succ f ih =>
  intro b n h;unfold nH;refine ak (fun _=>ah h) (fun hc=>?_)
  exact af (hrec .sig (n+1) trivial) (fun s m hs=>ih _ _ (QB.marked (dO (by decide) (h.ql.cat ((A7 T n hc).ql hs.ql)))))
theorem PS (n:Nat):Ret (qN S F rec d n) fun b m=>QB S n b m:=by
 unfold qN;exact af (Bc T hrec n) (fun b m hb=>NH T hrec n F b m hb)
theorem Bj (n:Nat):Ret (lu S rec d n) fun l m=>QL S n l.2 m:=by
 unfold lu;refine af (P:=fun l m=>QL S n l m) (ak (fun _=>ah (QL.nil n)) (fun hc=>?_)) (fun l m hl=>?_)
 ·exact af (hrec .sig (n+1) trivial) (fun s m hs=>ah ((A7 T n hc).ql hs.ql))
 ·refine af (bW T (by kernel_rfl) m) (fun _ m2 h2=>?_)
  exact af (hrec .str m2 trivial) (fun b m3 hb=>ah (hl.cat (h2.ql hb.ql)))
theorem wM {fr n:Nat} (hs:iR S fr n):Ret (dN S rec d fr n) fun b m=>QB S fr b m:=by
 unfold dN;refine af (fH (by decide) n) (fun x m hx=>?_)
 exact af (Bj T hrec m) (fun l m2 hl=>ah (QB.marked (ik (by decide) (hs.qn hx) hl)))
theorem Bv {fr n:Nat} (hs:iR S fr n):Ret (fG S rec d fr n) fun b m=>QB S fr b m:=by
 unfold fG;refine af (fH (by decide) n) (fun x m hx=>?_)
 refine af (bW T (by kernel_rfl) m) (fun _ m2 h2=>?_)
 refine af (fH (by decide) m2) (fun y m3 hy=>?_)
 refine af (bW T (by kernel_rfl) m3) (fun _ m4 h4=>?_)
 refine af (hrec .sig m4 trivial) (fun g m5 hg=>?_)
 refine af (bW T (by kernel_rfl) m5) (fun _ m6 h6=>?_)
 exact af (Bj T hrec m6) (fun l m7 hl=>ah (QB.marked (ik (ns:=[x]++[y]) (by decide) (hs.qn (hx.cat (h2.qn hy))) (h4.ql (hg.ql.cat (h6.ql hl))))))
theorem PG (p:Nat):∀ (f:Nat) (acc:List Pb) (n:Nat),QL S p acc n→Ret (tC S F rec d f acc n) fun l m=>QL S p l m:=by
 intro f
 induction f with
 | zero=>intro acc n _; exact bI
 | succ f ih =>
  intro acc n h;unfold tC;exact ak (fun _=>af (jk T hrec n) (fun b m hb=>ih _ _ (h.cat hb.ql))) (fun _=>ah h)
theorem zo (n:Nat):Ret (dM S F rec d n) fun b m=>QB S n b m:=by
 unfold dM;refine af (uj T n) (fun x m hx=>?_)
 refine af (jk T hrec m) (fun b m2 hb=>?_)
 refine af (PG T hrec m F [b] m2 hb.ql) (fun l m3 hl=>?_)
 refine af (bW T (by kernel_rfl) m3) (fun _ m4 h4=>?_)
 exact af (hrec .exp m4 trivial) (fun e m5 he=>ah (ik (by decide) hx (hl.cat (h4.ql he.ql))))
theorem I4 {fr n:Nat} (hs:iR S fr n) (a:Nat):Ret (jg S F rec d fr a n) fun b m=>QB S fr b m:=by
 unfold jg;refine af (pO T hrec a n) (fun x m hx=>?_)
 refine af (bW T (by kernel_rfl) m) (fun _ m2 h2=>?_)
 refine af (pO T hrec a m2) (fun y m3 hy=>?_)
 exact af (bW T (by kernel_rfl) m3) (fun _ m4 h4=>ah (dO (by decide) ((hs.ql hx.ql).cat (h2.ql (hy.ql.skip h4)))))
theorem PL (a n:Nat) (hl:declares S a n=true):Ret (qG S F rec d a n) fun b m=>QB S n b m:=by
 unfold qG;refine ak (fun h=>?_) (fun q1=>ak (fun h=>?_) (fun q2=>ak (fun h=>?_) (fun q3=>ak (fun h=>?_) (fun q4=>ak (fun h=>?_) (fun q5=>ak (fun h=>?_) (fun q6=>ak (fun h=>?_) (fun q7=>ak (fun h=>?_) (fun q8=>?_))))))))
 ·refine af (hrec .pat (n+1) trivial) (fun p m hp=>?_)
  refine af (bW T (by kernel_rfl) m) (fun _ m2 h2=>?_)
  exact af (hrec .exp m2 trivial) (fun e m3 he=>ah (dO (by decide) (((bz T (by kernel_rfl) h).ql hp.ql).cat (h2.ql he.ql))))
 ·exact af (ni T F (by kernel_rfl) (zo T hrec) (n+1)) (fun l m hl=>ah (dO (by decide) ((bz T (by kernel_rfl) h).ql hl)))
 ·refine af (mZ T (n+1)) (fun x m hx=>?_)
  refine af (bW T (by kernel_rfl) m) (fun _ m2 h2=>?_)
  exact af (hrec .ty m2 trivial) (fun b m3 hb=>ah (ik (by decide) ((bz T (by kernel_rfl) h).qn hx) (h2.ql hb.ql)))
 ·exact o9 T hrec (bz T (by kernel_rfl) h)
 ·exact wM T hrec (bz T (by kernel_rfl) h)
 ·refine af (fH (by decide) (n+1)) (fun x m hx=>?_)
  refine af (bW T (by kernel_rfl) m) (fun _ m2 h2=>?_)
  exact af (hrec .sig m2 trivial) (fun b m3 hb=>ah (ik (by decide) ((bz T (by kernel_rfl) h).qn hx) (h2.ql hb.ql)))
 ·exact Bv T hrec (bz T (by kernel_rfl) h)
 ·exact af (oK T (by decide) (n+1)) (fun p m hp=>ah (iW (by decide) ((bz T (by kernel_rfl) h).qn hp)))
 ·refine I4 T hrec (bz T (t:=[108,111,99,97,108]) (by kernel_rfl) ?_) a
  unfold declares at hl;simp only [q1,q2,q3,q4,q5,q6,q7,q8,Bool.or_self,Bool.false_or,cond_false] at hl;exact hl
end
theorem N8:∀ (f:Nat) (nt:Nt) (d n:Nat),S.may nt n→Ret (parts S f nt d n) fun b m=>QB S n b m:=by
 intro f
 induction f with
 | zero=>intro nt d n _; exact bI
 | succ f ih =>
  intro nt d n hm;unfold parts;refine ak (fun _=>ve) (fun _=>?_)
  have hrec:∀ nt k,S.may nt k→Ret (parts S f nt (d+1) k) fun b m=>QB S k b m:=fun nt k hk=>ih nt (d+1) k hk
  cases nt with
  | exp=>exact O9 T hrec n
  | pat=>exact Pz T hrec n
  | ty=>exact Tv T hrec n
  | sig=>exact Px T hrec n
  | str=>exact PS T hrec n
  | dec a=>exact PL T hrec a n hm
theorem Lj (F:Nat):Ret (jq S F 0) fun b m=>QB S 0 b m:=by
 unfold jq;exact af (wB T (F:=F) (rec:=parts S F) (d:=0) (fun nt k hk=>N8 T F nt 0 k hk) 2 0) (fun l m hl=>ah (dO (by decide) hl))
end
mutual
def Pb.wt:Pb→Nat
 | .mk _ _ _ _ ns ks=>1+ns.length+wtL ks
def wtL:List Pb→Nat
 | []=>0
 | b :: r=>b.wt+wtL r
end
theorem eY (a b:List Pb):wtL (a++b)=wtL a+wtL b:=by
 induction a with
 | nil=>simp [wtL]
 | cons y r ih=>simp [wtL,ih]; omega
theorem aU (k:Int) (f t:Nat) (ns:List Nat) (l:List Pb):(node k f t ns l).wt=1+ns.length+wtL l:=by
 simp [node,Pb.wt]
theorem rV (m:Int) (b:Pb):(marked m b).wt=b.wt:=by
 cases b; simp [marked,Pb.wt]
theorem ru {l:List Pb} {k:Int} {f t:Nat} {ns:List Nat} {n m:Nat} (h:wtL l+l.length+ns.length+3 * n≤3 * m) (h1:1≤l.length):(fB l k f t ns).wt+1+3 * n≤3 * m:=by
 unfold fB
 split
 ·simp [wtL] at h; omega
 ·next hne =>
  rw [aU]
  match l,hne,h1 with
  | a :: b :: r,_,_=>simp only [List.length_cons] at h ⊢; omega
  | [a],hne,_=>exact absurd rfl (hne a)
section
variable {S:Src}
theorem bV {t:List UInt8} (n:Nat):Ret (S.need t n) fun _ m=>m=n+1:=by
 unfold Src.need;exact ak (fun h=>ah rfl) (fun _=>iV)
theorem eX {ks:List Int} (n:Nat):Ret (S.take ks n) fun x m=>m=n+1:=by
 unfold Src.take;exact ak (fun h=>ah rfl) (fun _=>iV)
theorem NW {ks:List Int} (p:Nat):∀ (f:Nat) (acc:List Nat) (n:Nat),1≤acc.length→acc.length+p≤n→Ret (S.pathL ks f acc n) fun l m=>1≤l.length∧l.length+p≤m:=by
 intro f
 induction f with
 | zero=>intro acc n _ _; exact bI
 | succ f ih =>
  intro acc n h0 h;unfold Src.pathL;refine ak (fun hc=>?_) (fun _=>ah ⟨h0,h⟩)
  exact af (eX (n+1)) (fun x m hx=>ih _ _ (by simp) (by simp; omega))
theorem oP {ks:List Int} (n:Nat):Ret (S.path ks n) fun l m=>1≤l.length∧l.length+n≤m:=by
 unfold Src.path;exact af (eX n) (fun x m hx=>NW n _ _ _ (by simp) (by simp; omega))
theorem lD (n:Nat):Ret (S.typePath n) fun l m=>1≤l.length∧l.length+n≤m:=by
 unfold Src.typePath;exact af (oP n) (fun p m hp=>ak (fun _=>ah hp) (fun _=>iV))
theorem ul (n:Nat):Ret (S.value n) fun x m=>n+1≤m:=by
 unfold Src.value;refine ak (fun h=>?_) (fun _=>(eX n).mono fun x m hx=>by omega)
 exact (eX (n+1)).mono fun x m hx=>by omega
theorem PH {mark:List UInt8} {read:Nat→Out Pb} (hr:∀ k,Ret (read k) fun b m=>b.wt+1+3 * k≤3 * m) (p:Nat):∀ (f:Nat) (acc:List Pb) (n:Nat),1≤acc.length→wtL acc+acc.length+3 * p≤3 * n→Ret (nX S mark read f acc n) fun l m=>1≤l.length∧wtL l+l.length+3 * p≤3 * m:=by
 intro f
 induction f with
 | zero=>intro acc n _ _; exact bI
 | succ f ih =>
  intro acc n h0 h;unfold nX;refine ak (fun hc=>?_) (fun _=>ah ⟨h0,h⟩)
  exact af (hr (n+1)) (fun b m hb=>ih _ _ (by simp) (by simp only [eY,wtL,List.length_append,List.length_singleton]; omega))
theorem ny (F:Nat) {mark:List UInt8} {read:Nat→Out Pb} (hr:∀ k,Ret (read k) fun b m=>b.wt+1+3 * k≤3 * m) (n:Nat):Ret (gK S F mark read n) fun l m=>1≤l.length∧wtL l+l.length+3 * n≤3 * m:=by
 unfold gK;exact af (hr n) (fun b m hb=>PH hr n F [b] m (by simp) (by simp [wtL]; omega))
section
variable {F:Nat} {rec:Nt→Nat→Nat→Out Pb} {d:Nat} (hrec:∀ nt k,S.may nt k→Ret (rec nt d k) fun b m=>b.wt+1+3 * k≤3 * m)
include hrec
theorem zu (n:Nat):Ret (dZ S F rec d n) fun b m=>b.wt+1+3 * n≤3 * m:=by
 unfold dZ;refine ak (fun h=>ah (by simp [aU,wtL]; omega)) (fun _=>ak (fun h=>?_) (fun _=>?_))
 ·refine af (ny F (fun k=>hrec .ty k trivial) (n+1)) (fun l m hl=>?_)
  refine af (bV m) (fun _ m2 h2=>?_)
  unfold qH
  split
  ·exact ah (by simp only [wtL,List.length_singleton] at hl; omega)
  ·exact af (lD m2) (fun p m3 hp=>ah (by rw [aU]; omega))
 ·exact af (lD n) (fun p m3 hp=>ah (by simp only [aU,wtL]; omega))
theorem AL (n:Nat):∀ (f:Nat) (b:Pb) (m:Nat),b.wt+1+3 * n≤3 * m→Ret (dX S n f b m) fun b m=>b.wt+1+3 * n≤3 * m:=by
 have _:=hrec;intro f
 induction f with
 | zero=>intro b m _; exact bI
 | succ f ih =>
  intro b m h;unfold dX;exact ak (fun _=>af (lD m) (fun p m1 hp=>ih _ _ (by simp only [aU,wtL]; omega))) (fun _=>ah h)
theorem CG (n:Nat):Ret (dK S F rec d n) fun b m=>b.wt+1+3 * n≤3 * m:=by
 unfold dK;exact af (zu hrec n) (fun b m hb=>AL hrec n F b m hb)
theorem Dj (n:Nat):Ret (fE S F rec d n) fun b m=>b.wt+1+3 * n≤3 * m:=by
 unfold fE;exact af (ny F (CG hrec) n) (fun l m hl=>ah (ru (by simpa using hl.2) hl.1))
theorem TS (n:Nat):Ret (tyO S F rec d n) fun b m=>b.wt+1+3 * n≤3 * m:=by
 unfold tyO;refine af (Dj hrec n) (fun b m hb=>ak (fun h=>?_) (fun _=>ah hb))
 exact af (hrec .ty (m+1) trivial) (fun c m2 hc=>ah (by simp only [aU,wtL,List.length_nil]; omega))
omit hrec in
theorem Ia {fr n:Nat} (hs:fr+1≤n) {member:Nat→Out Pb} (hm:∀ k,Ret (member k) fun b m=>b.wt+1+3 * k≤3 * m):Ret (je S F fr member n) fun b m=>b.wt+1+3 * fr≤3 * m:=by
 unfold je;refine ak (fun h=>ah (by simp only [aU,wtL,List.length_nil]; omega)) (fun _=>?_)
 refine af (ny F hm n) (fun l m hl=>?_)
 exact af (bV m) (fun _ m2 h2=>ah (ru (by simp only [List.length_nil]; omega) hl.1))
omit hrec in
theorem xK {named:Int} {member:Nat→Out Pb} (hm:∀ k,Ret (member k) fun b m=>b.wt+1+3 * k≤3 * m) (n:Nat):Ret (plainO S F named member n) fun b m=>b.wt+1+3 * n≤3 * m:=by
 unfold plainO;refine ak (fun h=>ah (by simp only [aU,wtL,List.length_nil]; omega)) (fun _=>ak (fun h=>ah (by simp only [aU,wtL,List.length_nil]; omega)) (fun _=>ak (fun h=>?_) (fun _=>?_)))
 ·exact Ia (by omega) hm
 ·exact af (ul n) (fun x m hx=>ah (by simp only [aU,wtL,List.length_singleton]; omega))
theorem jm (n:Nat):Ret (bZ S F rec d n) fun b m=>b.wt+1+3 * n≤3 * m:=by
 unfold bZ;refine ak (fun h=>ah (by simp only [aU,wtL,List.length_nil]; omega)) (fun _=>ak (fun _=>?_) (fun _=>xK (fun k=>hrec .pat k trivial) n))
 exact af (oP n) (fun p m hp=>ah (by simp only [aU,wtL]; omega))
theorem Qb (n:Nat):Ret (qL S F rec d n) fun b m=>b.wt+1+3 * n≤3 * m:=by
 unfold qL;refine ak (fun h=>?_) (fun _=>ak (fun _=>?_) (fun _=>jm hrec n))
 ·exact af (hrec .pat (n+2) trivial) (fun b m hb=>ah (by simp only [aU,wtL,List.length_singleton]; omega))
 ·refine af (oP n) (fun p m hp=>ak (fun _=>?_) (fun _=>ah (by simp only [aU,wtL]; omega)))
  exact af (jm hrec m) (fun b m2 hb=>ah (by simp only [aU,wtL]; omega))
theorem Nl (a p:Nat):∀ (f:Nat) (acc:List Pb) (n:Nat),wtL acc+acc.length+3 * p≤3 * n→Ret (mf S rec d a f acc n) fun l m=>wtL l+l.length+3 * p≤3 * m:=by
 intro f
 induction f with
 | zero=>intro acc n _; exact bI
 | succ f ih =>
  intro acc n h;unfold mf;refine ak (fun hc=>ih _ _ (by omega)) (fun _=>ak (fun hd=>?_) (fun _=>ah h))
  exact af (hrec (.dec a) n hd) (fun b m hb=>ih _ _ (by simp only [eY,wtL,List.length_append,List.length_singleton]; omega))
theorem uB (a n:Nat):Ret (iy S F rec d a n) fun l m=>wtL l+l.length+3 * n≤3 * m:=Nl hrec a n F [] n (by simp [wtL])
theorem qg (a n:Nat):Ret (gz S F rec d a n) fun b m=>b.wt+3 * n≤3 * m+1:=by
 unfold gz;exact af (uB hrec a n) (fun l m hl=>ah (by simp only [aU,List.length_nil]; omega))
theorem BH (n:Nat):Ret (iZ S F rec d n) fun b m=>b.wt+1+3 * n≤3 * m:=by
 unfold iZ;refine ak (fun _=>?_) (fun _=>ak (fun h=>?_) (fun _=>xK (fun k=>hrec .exp k trivial) n))
 ·exact af (oP n) (fun p m hp=>ak (fun _=>ah (by simp only [aU,wtL]; omega)) (fun _=>ah (by simp only [aU,wtL]; omega)))
 ·refine af (qg hrec 0 (n+1)) (fun ds m hd=>?_)
  refine af (bV m) (fun _ m2 h2=>?_)
  refine af (hrec .exp m2 trivial) (fun e m3 he=>?_)
  exact af (bV m3) (fun _ m4 h4=>ah (by simp only [aU,wtL,List.length_nil]; omega))
theorem Lt (p:Nat):∀ (f:Nat) (acc:List Pb) (n:Nat),1≤acc.length→wtL acc+acc.length+3 * p≤3 * n→Ret (jJ S F rec d f acc n) fun l m=>1≤l.length∧wtL l+l.length+3 * p≤3 * m:=by
 intro f
 induction f with
 | zero=>intro acc n _ _; exact bI
 | succ f ih =>
  intro acc n h0 h;unfold jJ;exact ak (fun _=>af (BH hrec n) (fun b m hb=>ih _ _ (by simp) (by simp only [eY,wtL,List.length_append,List.length_singleton]; omega))) (fun _=>ah ⟨h0,h⟩)
theorem AY (n:Nat):Ret (lK S F rec d n) fun b m=>b.wt+1+3 * n≤3 * m:=by
 unfold lK;refine af (BH hrec n) (fun b m hb=>?_)
 exact af (Lt hrec n F [b] m (by simp) (by simp [wtL]; omega)) (fun l m2 hl=>ah (ru (by simpa using hl.2) hl.1))
theorem IB (p:Nat):∀ (f:Nat) (sg:List Nat) (acc:List Pb) (n:Nat),1≤acc.length→wtL acc+acc.length+sg.length+3 * p≤3 * n→Ret (jG S F rec d f sg acc n) fun l m=>1≤l.2.length∧wtL l.2+l.2.length+l.1.length+3 * p≤3 * m:=by
 intro f
 induction f with
 | zero=>intro sg acc n _ _; exact bI
 | succ f ih =>
  intro sg acc n h0 h;unfold jG;refine ak (fun _=>?_) (fun _=>ah ⟨h0,h⟩)
  exact af (eX n) (fun x m hx=>af (AY hrec m) (fun b m2 hb=>ih _ _ _ (by simp) (by simp only [eY,wtL,List.length_append,List.length_singleton]; omega)))
theorem Hu (n:Nat):Ret (iK S F rec d n) fun b m=>b.wt+1+3 * n≤3 * m:=by
 unfold iK;refine af (AY hrec n) (fun b m hb=>?_)
 exact af (IB hrec n F [] [b] m (by simp) (by simp [wtL]; omega)) (fun l m2 hl=>ah (ru hl.2 hl.1))
theorem uP {k:Int} {fr n:Nat} (hs:fr≤n):Ret (gy S rec d k fr n) fun b m=>b.wt+1+3 * fr≤3 * m:=by
 unfold gy;refine af (hrec .pat n trivial) (fun p m hp=>?_)
 refine af (bV m) (fun _ m2 h2=>?_)
 exact af (hrec .exp m2 trivial) (fun e m3 he=>ah (by simp only [aU,wtL,List.length_nil]; omega))
theorem Ql (n:Nat):Ret (yU S rec d n) fun b m=>b.wt+1+3 * n≤3 * m:=uP hrec (Nat.le_refl _)
theorem O0 (n:Nat):Ret (qE S F rec d n) fun b m=>b.wt+1+3 * n≤3 * m:=by
 unfold qE;refine ak (fun h=>?_) (fun _=>ak (fun h=>?_) (fun _=>ak (fun h=>?_) (fun _=>Hu hrec n)))
 ·refine af (hrec .exp (n+1) trivial) (fun a m ha=>?_)
  refine af (bV m) (fun _ m2 h2=>?_)
  refine af (hrec .exp m2 trivial) (fun b m3 hb=>?_)
  refine af (bV m3) (fun _ m4 h4=>?_)
  exact af (hrec .exp m4 trivial) (fun c m5 hc=>ah (by simp only [aU,wtL,List.length_nil]; omega))
 ·refine af (hrec .exp (n+1) trivial) (fun a m ha=>?_)
  refine af (bV m) (fun _ m2 h2=>?_)
  exact af (ny F (Ql hrec) m2) (fun l m3 hl=>ah (by simp only [aU,eY,wtL,List.length_nil]; omega))
 ·exact uP hrec (by omega)
omit hrec in
theorem NL:∀ (f n:Nat),Ret (lg S f n) fun _ m=>n≤m:=by
 intro f
 induction f with
 | zero=>intro n; exact bI
 | succ f ih =>
  intro n;unfold lg;exact ak (fun hc=>af (eX (n+1)) (fun _ m hm=>(ih m).mono fun _ m2 h=>by omega)) (fun _=>ah (Nat.le_refl _))
omit hrec in
theorem mQ (n:Nat):Ret (cO S F n) fun x m=>n+1≤m:=by
 unfold cO;refine ak (fun h=>?_) (fun _=>ak (fun h=>?_) (fun _=>(eX n).mono fun x m hx=>by omega))
 ·exact (eX (n+1)).mono fun x m hx=>by omega
 ·refine af (eX (n+1)) (fun _ m hm=>?_)
  refine af (NL F m) (fun _ m2 h2=>?_)
  refine af (bV m2) (fun _ m3 h3=>?_)
  exact (eX m3).mono fun x m hx=>by omega
theorem Qp (n:Nat):Ret (o5 S rec d n) fun b m=>b.wt+1+3 * n≤3 * m:=by
 unfold o5;refine af (eX n) (fun x m hx=>ak (fun h=>?_) (fun _=>ah (by simp only [aU,wtL,List.length_singleton]; omega)))
 exact af (hrec .ty (m+1) trivial) (fun b m2 hb=>ah (by simp only [aU,wtL,List.length_singleton]; omega))
theorem Ig (n:Nat):Ret (iC S F rec d n) fun b m=>b.wt+1+3 * n≤3 * m:=by
 unfold iC;refine af (mQ n) (fun x m hx=>?_)
 refine af (bV m) (fun _ m2 h2=>?_)
 exact af (ny F (Qp hrec) m2) (fun l m3 hl=>ah (by simp only [aU,List.length_singleton]; omega))
theorem pF {fr n:Nat} (hs:fr+1≤n):Ret (dh S F rec d fr n) fun b m=>b.wt+1+3 * fr≤3 * m:=by
 unfold dh;exact af (ny F (Ig hrec) n) (fun l m hl=>ah (by simp only [aU,List.length_nil]; omega))
theorem Ls (n:Nat):Ret (l7 S F rec d n) fun b m=>b.wt+1+3 * n≤3 * m:=by
 unfold l7;refine ak (fun h=>?_) (fun _=>ak (fun h=>?_) (fun _=>ak (fun h=>?_) (fun _=>ak (fun h=>?_) (fun _=>?_))))
 ·refine af (ul (n+1)) (fun x m hx=>?_)
  refine af (bV m) (fun _ m2 h2=>?_)
  exact af (hrec .ty m2 trivial) (fun b m3 hb=>ah (by simp only [aU,wtL,List.length_singleton]; omega))
 ·refine af (mQ (n+1)) (fun x m hx=>ak (fun h2=>?_) (fun _=>ah (by simp only [aU,wtL,List.length_singleton]; omega)))
  exact af (hrec .ty (m+1) trivial) (fun b m3 hb=>ah (by simp only [aU,wtL,List.length_singleton]; omega))
 ·exact pF hrec (by omega)
 ·refine af (eX (n+1)) (fun x m hx=>?_)
  refine af (bV m) (fun _ m2 h2=>?_)
  exact af (hrec .sig m2 trivial) (fun b m3 hb=>ah (by simp only [aU,wtL,List.length_singleton]; omega))
 ·refine af (bV n) (fun _ m2 h2=>?_)
  exact af (hrec .sig m2 trivial) (fun b m3 hb=>ah (by simp only [aU,wtL,List.length_nil]; omega))
theorem Hw (p:Nat):∀ (f:Nat) (acc:List Pb) (n:Nat),wtL acc+acc.length+3 * p≤3 * n→Ret (jf S F rec d f acc n) fun l m=>wtL l+l.length+3 * p≤3 * m:=by
 intro f
 induction f with
 | zero=>intro acc n _; exact bI
 | succ f ih =>
  intro acc n h;unfold jf;refine ak (fun hc=>ah (by omega)) (fun _=>ak (fun hc=>ih _ _ (by omega)) (fun _=>?_))
  exact af (Ls hrec n) (fun b m hb=>ih _ _ (by simp only [eY,wtL,List.length_append,List.length_singleton]; omega))
theorem AX (n:Nat):Ret (fC S F rec d n) fun b m=>b.wt+1+3 * n≤3 * m:=by
 unfold fC;refine ak (fun h=>?_) (fun _=>af (eX n) (fun x m hx=>ah (by simp only [aU,wtL,List.length_singleton]; omega)))
 exact af (Hw hrec (n+1) F [] (n+1) (by simp [wtL])) (fun l m hl=>ah (by simp only [aU,List.length_nil]; omega))
theorem Jk (p:Nat):∀ (f:Nat) (b:Pb) (n:Nat),b.wt+1+3 * p≤3 * n→Ret (jE S rec d p f b n) fun b m=>b.wt+1+3 * p≤3 * m:=by
 intro f
 induction f with
 | zero=>intro b n _; exact bI
 | succ f ih =>
  intro b n h;unfold jE;refine ak (fun hc=>?_) (fun _=>ah h)
  refine af (bV (n+1)) (fun _ m h1=>?_)
  refine af (lD m) (fun p m2 hp=>?_)
  refine af (bV m2) (fun _ m3 h3=>?_)
  exact af (hrec .ty m3 trivial) (fun c m4 hb=>ih _ _ (by simp only [aU,wtL]; omega))
theorem Pq (n:Nat):Ret (qQ S F rec d n) fun b m=>b.wt+1+3 * n≤3 * m:=by
 unfold qQ;exact af (AX hrec n) (fun b m hb=>Jk hrec n F b m hb)
theorem Dy (n:Nat):Ret (fF S F rec d n) fun b m=>b.wt+1+3 * n≤3 * m:=by
 unfold fF;refine ak (fun h=>?_) (fun _=>ak (fun h=>?_) (fun _=>af (oP n) (fun p m hp=>ah (by simp only [aU,wtL]; omega))))
 ·refine af (uB hrec 1 (n+1)) (fun l m hl=>?_)
  exact af (bV m) (fun _ m2 h2=>ah (by simp only [aU,List.length_nil]; omega))
 ·refine af (hrec .str (n+2) trivial) (fun b m hb=>?_)
  exact af (bV m) (fun _ m2 h2=>ah (by simp only [aU,wtL,List.length_singleton]; omega))
theorem NQ (p:Nat):∀ (f:Nat) (b:Pb) (n:Nat),b.wt+1+3 * p≤3 * n→Ret (nH S rec d p f b n) fun b m=>b.wt+1+3 * p≤3 * m:=by
 intro f
 induction f with
 | zero=>intro b n _; exact bI
 | succ f ih =>
  intro b n h;unfold nH;refine ak (fun _=>ah h) (fun hc=>?_)
  exact af (hrec .sig (n+1) trivial) (fun s m hs=>ih _ _ (by simp only [rV,aU,wtL,List.length_nil]; omega))
theorem OZ (n:Nat):Ret (qN S F rec d n) fun b m=>b.wt+1+3 * n≤3 * m:=by
 unfold qN;exact af (Dy hrec n) (fun b m hb=>NQ hrec n F b m hb)
theorem Di (n:Nat):Ret (lu S rec d n) fun l m=>wtL l.2+l.2.length+3 * n≤3 * m:=by
 unfold lu;refine af (P:=fun l m=>wtL l+l.length+3 * n≤3 * m) (ak (fun _=>ah (by simp [wtL])) (fun hc=>?_)) (fun l m hl=>?_)
 ·exact af (hrec .sig (n+1) trivial) (fun s m hs=>ah (by simp only [wtL,List.length_singleton]; omega))
 ·refine af (bV m) (fun _ m2 h2=>?_)
  exact af (hrec .str m2 trivial) (fun b m3 hb=>ah (by simp only [eY,wtL,List.length_append,List.length_singleton]; omega))
theorem xe {fr n:Nat} (hs:fr+1≤n):Ret (dN S rec d fr n) fun b m=>b.wt+1+3 * fr≤3 * m:=by
 unfold dN;refine af (eX n) (fun x m hx=>?_)
 exact af (Di hrec m) (fun l m2 hl=>ah (by simp only [rV,aU,List.length_singleton]; omega))
theorem Dt {fr n:Nat} (hs:fr+1≤n):Ret (fG S rec d fr n) fun b m=>b.wt+1+3 * fr≤3 * m:=by
 unfold fG;refine af (eX n) (fun x m hx=>?_)
 refine af (bV m) (fun _ m2 h2=>?_)
 refine af (eX m2) (fun y m3 hy=>?_)
 refine af (bV m3) (fun _ m4 h4=>?_)
 refine af (hrec .sig m4 trivial) (fun g m5 hg=>?_)
 refine af (bV m5) (fun _ m6 h6=>?_)
 exact af (Di hrec m6) (fun l m7 hl=>ah (by simp only [rV,aU,eY,wtL,List.length_cons,List.length_nil]; omega))
theorem PZ (p:Nat):∀ (f:Nat) (acc:List Pb) (n:Nat),wtL acc+acc.length+3 * p≤3 * n→Ret (tC S F rec d f acc n) fun l m=>wtL l+l.length+3 * p≤3 * m:=by
 intro f
 induction f with
 | zero=>intro acc n _; exact bI
 | succ f ih =>
  intro acc n h;unfold tC;exact ak (fun _=>af (jm hrec n) (fun b m hb=>ih _ _ (by simp only [eY,wtL,List.length_append,List.length_singleton]; omega))) (fun _=>ah h)
theorem zy (n:Nat):Ret (dM S F rec d n) fun b m=>b.wt+1+3 * n≤3 * m:=by
 unfold dM;refine af (ul n) (fun x m hx=>?_)
 refine af (jm hrec m) (fun b m2 hb=>?_)
 refine af (PZ hrec m F [b] m2 (by simp [wtL]; omega)) (fun l m3 hl=>?_)
 refine af (bV m3) (fun _ m4 h4=>?_)
 exact af (hrec .exp m4 trivial) (fun e m5 he=>ah (by simp only [aU,eY,wtL,List.length_singleton]; omega))
theorem JM {fr n:Nat} (hs:fr+1≤n) (a:Nat):Ret (jg S F rec d fr a n) fun b m=>b.wt+1+3 * fr≤3 * m:=by
 unfold jg;refine af (qg hrec a n) (fun x m hx=>?_)
 refine af (bV m) (fun _ m2 h2=>?_)
 refine af (qg hrec a m2) (fun y m3 hy=>?_)
 exact af (bV m3) (fun _ m4 h4=>ah (by simp only [aU,wtL,List.length_nil]; omega))
theorem P9 (a n:Nat):Ret (qG S F rec d a n) fun b m=>b.wt+1+3 * n≤3 * m:=by
 unfold qG;refine ak (fun h=>?_) (fun q1=>ak (fun h=>?_) (fun q2=>ak (fun h=>?_) (fun q3=>ak (fun h=>?_) (fun q4=>ak (fun h=>?_) (fun q5=>ak (fun h=>?_) (fun q6=>ak (fun h=>?_) (fun q7=>ak (fun h=>?_) (fun q8=>?_))))))))
 ·refine af (hrec .pat (n+1) trivial) (fun p m hp=>?_)
  refine af (bV m) (fun _ m2 h2=>?_)
  exact af (hrec .exp m2 trivial) (fun e m3 he=>ah (by simp only [aU,wtL,List.length_nil]; omega))
 ·exact af (ny F (zy hrec) (n+1)) (fun l m hl=>ah (by simp only [aU,List.length_nil]; omega))
 ·refine af (mQ (n+1)) (fun x m hx=>?_)
  refine af (bV m) (fun _ m2 h2=>?_)
  exact af (hrec .ty m2 trivial) (fun b m3 hb=>ah (by simp only [aU,wtL,List.length_singleton]; omega))
 ·exact pF hrec (by omega)
 ·exact xe hrec (by omega)
 ·refine af (eX (n+1)) (fun x m hx=>?_)
  refine af (bV m) (fun _ m2 h2=>?_)
  exact af (hrec .sig m2 trivial) (fun b m3 hb=>ah (by simp only [aU,wtL,List.length_singleton]; omega))
 ·exact Dt hrec (by omega)
 ·exact af (oP (n+1)) (fun p m hp=>ah (by simp only [aU,wtL]; omega))
 ·exact JM hrec (by omega) a
end
theorem NU:∀ (f:Nat) (nt:Nt) (d n:Nat),S.may nt n→Ret (parts S f nt d n) fun b m=>b.wt+1+3 * n≤3 * m:=by
 intro f
 induction f with
 | zero=>intro nt d n _; exact bI
 | succ f ih =>
  intro nt d n hm;unfold parts;refine ak (fun _=>ve) (fun _=>?_)
  have hrec:∀ nt k,S.may nt k→Ret (parts S f nt (d+1) k) fun b m=>b.wt+1+3 * k≤3 * m:=fun nt k hk=>ih nt (d+1) k hk
  cases nt with
  | exp=>exact O0 hrec n
  | pat=>exact Qb hrec n
  | ty=>exact TS hrec n
  | sig=>exact Pq hrec n
  | str=>exact OZ hrec n
  | dec a=>exact P9 hrec a n
theorem MF (F:Nat):Ret (jq S F 0) fun b m=>b.wt≤3 * m+1:=by
 unfold jq;exact af (uB (F:=F) (rec:=parts S F) (d:=0) (fun nt k hk=>NU F nt 0 k hk) 2 0) (fun l m hl=>ah (by simp only [aU,List.length_nil]; omega))
end
theorem H9 {s t:ByteArray} (h:s.data.toList=t.data.toList):s=t:=by
 cases s; cases t; simp only at h; congr 1; exact Array.ext' h
end Go.Proofs.YtmpmfamiegpmgaaGreatDoor
