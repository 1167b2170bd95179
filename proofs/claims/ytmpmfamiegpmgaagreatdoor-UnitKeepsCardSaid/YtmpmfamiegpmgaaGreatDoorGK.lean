/-
  The plain parser's branches are right, and each name in a text is one branch's, once.; How large the plain parser's branches are: a branch, all its parts and all their names are fewer than three for each token.; Pieces of texts; the first bad token by the words.
-/
import Derived.Test.YtmpmfamiegpmgaaGreatDoorGI
import Derived.Test.YtmpmfamiegpmgaaGreatDoorGJ
import Derived.Test.YtmpmfamiegpmgaaGreatDoorGS
namespace Go.Proofs.YtmpmfamiegpmgaaGreatDoor
open Go.RowKit
set_option maxRecDepth 20000
set_option linter.unusedVariables false
set_option linter.unusedSimpArgs false
def Pb.fr:Pb→Int | .mk _ _ f _ _ _=>f
def Pb.to:Pb→Int | .mk _ _ _ t _ _=>t
mutual
def Pb.cnt (x:Int):Pb→Nat
 | .mk _ _ _ _ ns ks=>ns.count x+pK x ks
def pK (x:Int):List Pb→Nat
 | []=>0
 | b :: r=>b.cnt x+pK x r
end
mutual
def Pb.Rt:Pb→Prop
 | .mk k _ f t ns ks=>0 < k∧0≤f∧f≤t∧(∀ n ∈ ns,f≤n∧n < t)∧df f t ks
def df (f t:Int):List Pb→Prop
 | []=>f≤t
 | b :: r=>b.Rt∧f≤b.fr∧df b.to t r
end
theorem oP (x:Int) (a b:List Pb):pK x (a++b)=pK x a+pK x b:=by
 induction a with
 | nil=>simp [pK]
 | cons y r ih=>simp [pK,ih]; omega
theorem Pb.Rt.le {b:Pb} (h:b.Rt):0≤b.fr∧b.fr≤b.to:=by
 cases b; simp only [Pb.Rt] at h; exact ⟨h.2.1,h.2.2.1⟩
theorem df.le {f t:Int}:∀ {l:List Pb},df f t l→f≤t:=by
 intro l
 induction l generalizing f with
 | nil=>intro h; exact h
 | cons b r ih=>intro h; simp only [df] at h; have:=ih h.2.2; have:=h.1.le; omega
theorem df.low {f f' t:Int} (hf:f'≤f):∀ {l:List Pb},df f t l→df f' t l:=by
 intro l h
 cases l with
 | nil=>simp only [df] at h ⊢; omega
 | cons b r=>simp only [df] at h ⊢; exact ⟨h.1,by omega,h.2.2⟩
theorem df.cat {m t:Int}:∀ {f:Int} {l r:List Pb},df f m l→df m t r→df f t (l++r):=by
 intro f l
 induction l generalizing f with
 | nil=>intro r h1 h2; simp only [df] at h1; exact h2.low h1
 | cons b l ih=>intro r h1 h2; simp only [df,List.cons_append] at h1 ⊢; exact ⟨h1.1,h1.2.1,ih h1.2.2 h2⟩
theorem df.up {f t t':Int} {l:List Pb} (h:df f t l) (ht:t≤t'):df f t' l:=by
 have:=df.cat (r:=[]) h (by simpa only [df] using ht)
 simpa using this
def Src.nm (S:Src) (n:Nat):Bool:=S.kd n == 6 || S.kd n == 7 || S.kd n == 9
structure Cov (S:Src) (n m:Nat) (c:Int→Nat):Prop where
 le:n≤m
 one:∀ x,c x≤1
 inn:∀ x,0 < c x→(n:Int)≤x∧x < (m:Int)
 nm:∀ x:Nat,0 < c (x:Int)→S.nm x=true
 all:∀ x:Nat,n≤x→x < m→S.nm x=true→S.is x [42]=false→0 < c (x:Int)
abbrev jl (S:Src) (n m:Nat):Prop:=Cov S n m fun _=>0
section
variable {S:Src}
theorem Cov.ext {n m:Nat} {c d:Int→Nat} (h:Cov S n m c) (e:∀ x,d x=c x):Cov S n m d:=by
 have:d=c:=funext e
 subst this; exact h
theorem Cov.add {n m k:Nat} {c d:Int→Nat} (h:Cov S n m c) (g:Cov S m k d):Cov S n k fun x=>c x+d x where
 le:=Nat.le_trans h.le g.le
 one x:=by
  rcases Nat.eq_zero_or_pos (c x) with hc | hc
  ·have:=g.one x; omega
  ·rcases Nat.eq_zero_or_pos (d x) with hd | hd
   ·have:=h.one x; omega
   ·have:=h.inn x hc; have:=g.inn x hd; omega
 inn x hx:=by
  have h1:=h.le; have h2:=g.le
  rcases Nat.eq_zero_or_pos (c x) with hc | hc
  ·have:=g.inn x (by omega); omega
  ·have:=h.inn x hc; omega
 nm x hx:=by
  rcases Nat.eq_zero_or_pos (c x) with hc | hc
  ·exact g.nm x (by omega)
  ·exact h.nm x hc
 all x h1 h2 h3 h4:=by
  rcases Nat.lt_or_ge x m with hx | hx
  ·have:=h.all x h1 hx h3 h4; omega
  ·have:=g.all x hx h2 h3 h4; omega
theorem jl.nil (n:Nat):jl S n n:=⟨Nat.le_refl _,fun _=>by omega,fun _ h=>by omega,fun _ h=>by omega,fun x h1 h2=>by omega⟩
theorem Ef {n:Nat} (h:S.nm n=false∨S.is n [42]=true):jl S n (n+1) :=
 ⟨by omega,fun _=>by omega,fun _ h=>by omega,fun _ h=>by omega,fun x h1 h2 h3 h4=>by
  have:x=n:=by omega
  subst this
  rcases h with h | h
  ·rw [h3] at h; cases h
  ·rw [h4] at h; cases h⟩
theorem jl.cat {n m k:Nat} (h:jl S n m) (g:jl S m k):jl S n k:=(h.add g).ext fun _=>rfl
theorem Cov.skip {n m k:Nat} {c:Int→Nat} (h:Cov S n m c) (g:jl S m k):Cov S n k c:=(h.add g).ext fun _=>rfl
theorem jl.then {n m k:Nat} {c:Int→Nat} (g:jl S n m) (h:Cov S m k c):Cov S n k c:=(g.add h).ext fun x=>by simp
def cnN (l:List Nat) (x:Int):Nat:=(l.map fun y:Nat=>(y:Int)).count x
theorem Ah (x:Int):cnN [] x=0:=rfl
theorem xW (a b:List Nat) (x:Int):cnN (a++b) x=cnN a x+cnN b x:=by simp [cnN,List.count_append]
theorem wH {n:Nat} (h:S.nm n=true):Cov S n (n+1) (cnN [n]):=by
 have e:∀ x:Int,cnN [n] x=if x=n then 1 else 0:=fun x=>by
  by_cases hx:x=(n:Int)
  ·subst hx; simp [cnN]
  ·simp only [cnN,List.map_cons,List.map_nil,hx,if_false]
   rw [List.count_cons_of_ne (fun e=>hx e.symm)]; rfl
 refine ⟨by omega,fun x=>by rw [e]; split <;> omega,fun x hx=>?_,fun x hx=>?_,fun x h1 h2 h3 _=>?_⟩
 ·rw [e] at hx; split at hx <;> omega
 ·rw [e] at hx
  split at hx
  ·have:x=n:=by omega
   subst this; exact h
  ·omega
 ·have:x=n:=by omega
  subst this;rw [e,if_pos rfl]; omega
def Ret {α:Type} (o:Out α) (P:α→Nat→Prop):Prop:=∀ x m,o=.ok x m→P x m
theorem af {α β:Type} {o:Out α} {f:α→Nat→Out β} {P:α→Nat→Prop} {Q:β→Nat→Prop} (h:Ret o P) (hf:∀ x m,P x m→Ret (f x m) Q):Ret (o.bind f) Q:=by
 intro x m e
 cases o with
 | ok a n=>exact hf a n (h a n rfl) x m e
 | form n=>cases e
 | deep n=>cases e
 | dry=>cases e
theorem ai {α:Type} {x:α} {m:Nat} {P:α→Nat→Prop} (h:P x m):Ret (.ok x m) P:=by
 intro y k e
 injection e with e1 e2
 subst e1 e2; exact h
theorem jq {α:Type} {n:Nat} {P:α→Nat→Prop}:Ret (.form n:Out α) P:=fun _ _ e=>by cases e
theorem wZ {α:Type} {n:Nat} {P:α→Nat→Prop}:Ret (.deep n:Out α) P:=fun _ _ e=>by cases e
theorem bP {α:Type} {P:α→Nat→Prop}:Ret (.dry:Out α) P:=fun _ _ e=>by cases e
theorem ax {α:Type} {c:Bool} {a b:Out α} {P:α→Nat→Prop} (ha:c=true→Ret a P) (hb:c=false→Ret b P):Ret (bif c then a else b) P:=by
 cases c
 ·exact hb rfl
 ·exact ha rfl
theorem Ret.mono {α:Type} {o:Out α} {P Q:α→Nat→Prop} (h:Ret o P) (hq:∀ x m,P x m→Q x m):Ret o Q:=fun x m e=>hq x m (h x m e)
structure QB (S:Src) (n:Nat) (b:Pb) (m:Nat):Prop where
 rt:b.Rt
 lo:(n:Int)≤b.fr
 hi:b.to≤(m:Int)
 cov:Cov S n m fun x=>b.cnt x
structure QL (S:Src) (n:Nat) (l:List Pb) (m:Nat):Prop where
 ch:df n m l
 cov:Cov S n m fun x=>pK x l
structure QN (S:Src) (n:Nat) (l:List Nat) (m:Nat):Prop where
 inn:∀ x ∈ l,n≤x∧x < m
 cov:Cov S n m (cnN l)
theorem QL.nil (n:Nat):QL S n [] n:=⟨by simp [df],(jl.nil n).ext fun _=>rfl⟩
theorem QL.skip {n m k:Nat} {l:List Pb} (h:QL S n l m) (g:jl S m k):QL S n l k:=⟨h.ch.up (by have:=g.le; omega),h.cov.skip g⟩
theorem jl.ql {n m k:Nat} {l:List Pb} (g:jl S n m) (h:QL S m l k):QL S n l k:=⟨h.ch.low (by have:=g.le; omega),g.then h.cov⟩
theorem QL.cat {n m k:Nat} {l r:List Pb} (h:QL S n l m) (g:QL S m r k):QL S n (l++r) k:=⟨h.ch.cat g.ch,(h.cov.add g.cov).ext fun x=>oP x l r⟩
theorem QB.ql {n m:Nat} {b:Pb} (h:QB S n b m):QL S n [b] m:=⟨by simp only [df]; exact ⟨h.rt,h.lo,h.hi⟩,h.cov.ext fun x=>by simp [pK]⟩
theorem QL.one {n m:Nat} {b:Pb} (h:QL S n [b] m):QB S n b m:=by
 have hc:=h.ch;simp only [df] at hc;exact ⟨hc.1,hc.2.1,hc.2.2,h.cov.ext fun x=>by simp [pK]⟩
theorem jl.qn {n m k:Nat} {l:List Nat} (g:jl S n m) (h:QN S m l k):QN S n l k:=⟨fun x hx=>by have:=h.inn x hx; have:=g.le; omega,g.then h.cov⟩
theorem QN.cat {n m k:Nat} {l r:List Nat} (h:QN S n l m) (g:QN S m r k):QN S n (l++r) k :=
 ⟨fun x hx=>by
  have h1:=h.cov.le; have h2:=g.cov.le
  rcases List.mem_append.1 hx with hx | hx
  ·have:=h.inn x hx; omega
  ·have:=g.inn x hx; omega,(h.cov.add g.cov).ext fun x=>xW l r x⟩
theorem mO {k:Int} {n m:Nat} {ns:List Nat} {l:List Pb} {c:Int→Nat} (hk:0 < k) (hn:∀ x ∈ ns,n≤x∧x < m) (hl:df n m l) (hc:Cov S n m c) (he:∀ x,cnN ns x+pK x l=c x):QB S n (node k n m ns l) m:=by
 refine ⟨?_,?_,?_,hc.ext fun x=>?_⟩
 ·have:=hc.le
  simp only [node,Pb.Rt];refine ⟨hk,by omega,by omega,fun x hx=>?_,hl⟩
  obtain ⟨y,hy,rfl⟩:=List.mem_map.1 hx
  have:=hn y hy; omega
 ·simp [node,Pb.fr]
 ·simp [node,Pb.to]
 ·simp only [node,Pb.cnt]; exact he x
theorem eu {k:Int} {n m:Nat} {l:List Pb} (hk:0 < k) (h:QL S n l m):QB S n (node k n m [] l) m :=
 mO hk (fun x hx=>by cases hx) h.ch h.cov (fun x=>by simp [Ah])
theorem jr {k:Int} {n m:Nat} {ns:List Nat} (hk:0 < k) (h:QN S n ns m):QB S n (node k n m ns []) m :=
 mO hk h.inn (by simp only [df]; have:=h.cov.le; omega) h.cov (fun x=>by simp [pK])
theorem iR {k:Int} {n j m:Nat} {ns:List Nat} {l:List Pb} (hk:0 < k) (h:QN S n ns j) (g:QL S j l m):QB S n (node k n m ns l) m :=
 mO hk (fun x hx=>by have:=h.inn x hx; have:=g.cov.le; omega) (g.ch.low (by have:=h.cov.le; omega)) (h.cov.add g.cov) (fun x=>rfl)
theorem G5 {k:Int} {n j m:Nat} {ns:List Nat} {l:List Pb} (hk:0 < k) (g:QL S n l j) (h:QN S j ns m):QB S n (node k n m ns l) m :=
 mO hk (fun x hx=>by have:=h.inn x hx; have:=g.cov.le; omega) (g.ch.up (by have:=h.cov.le; omega)) (g.cov.add h.cov) (fun x=>Nat.add_comm _ _)
theorem LM {k:Int} {n i j m:Nat} {ns:List Nat} {l r:List Pb} (hk:0 < k) (g:QL S n l i) (h:QN S i ns j) (g2:QL S j r m):QB S n (node k n m ns (l++r)) m:=by
 have h1:=g.cov.le; have h2:=h.cov.le; have h3:=g2.cov.le
 exact mO hk (fun x hx=>by have:=h.inn x hx; omega) ((g.ch.up (by omega)).cat (g2.ch)) ((g.cov.add h.cov).add g2.cov) (fun x=>by rw [oP]; omega)
theorem QB.marked {n m:Nat} {b:Pb} {k:Int} (h:QB S n b m):QB S n (marked k b) m:=by
 obtain ⟨h1,h2,h3,h4⟩:=h
 cases b
 exact ⟨by simpa only [Go.Proofs.YtmpmfamiegpmgaaGreatDoor.marked,Pb.Rt] using h1,h2,h3,h4.ext fun x=>by simp only [Go.Proofs.YtmpmfamiegpmgaaGreatDoor.marked,Pb.cnt]⟩
theorem yj {k:Int} {n m:Nat} {l:List Pb} (hk:0 < k) (h:QL S n l m):QB S n (fJ l k n m []) m:=by
 unfold fJ
 split
 ·exact h.one
 ·exact eu hk h
end
def yu (t:List UInt8):Bool:=t == [42] || !((dw t).1 == 6 || (dw t).1 == 7 || (dw t).1 == 9)
theorem OX (ask:Int→Bool) (l:List Tok):∀ t ∈ gY ask l,t ∈ l:=by
 induction l with
 | nil=>intro t h; exact h
 | cons x r ih =>
  intro t h;unfold gY at h
  cases hx:ask x.k <;> rw [hx] at h
  ·exact List.mem_cons_of_mem _ (ih t h)
  ·rcases List.mem_cons.1 h with rfl | h
   ·exact List.mem_cons_self
   ·exact List.mem_cons_of_mem _ (ih t h)
theorem Uw {S:Src} (T:S.ts=aO S.s) (n:Nat):S.kd n=(dw (S.tx n).data.toList).1:=by
 unfold Src.kd Src.tx
 cases h:S.ts[n]? with
 | none=>rfl
 | some t =>
  have hm:t ∈ tK S.s:=by
   have:t ∈ S.ts:=List.mem_of_getElem? h
   rw [T] at this;unfold aO at this;exact OX _ _ _ this
  obtain ⟨h1,h2⟩:=JO S.s 0 (by omega) t hm
  simp only
  by_cases hlt:t.a < S.s.size
  ·have e:=mD S.s t.a hlt
   rw [← h2] at e;have hne:S.s.data.toList.drop t.a≠[]:=by rw [drop_at S.s t.a hlt]; simp
   have ha:=Ir (S.s.data.toList.drop t.a) hne;have ek:t.k=(dw (S.s.data.toList.drop t.a)).1:=congrArg Tok.k e;have ee:t.e=t.a+(dw (S.s.data.toList.drop t.a)).2:=congrArg Tok.e e;rw [ee,extract_drop,ha,ek]
  ·have:t.a=S.s.size:=by omega
   rw [this,jI] at h2;have hk:t.k=0:=congrArg Tok.k h2;have he:t.e=S.s.size:=congrArg Tok.e h2;rw [hk,he,this]
   have:(S.s.extract S.s.size S.s.size).data.toList=[]:=by
    apply List.eq_nil_of_length_eq_zero
    simp
   rw [this]; rfl
section
variable {S:Src} (T:S.ts=aO S.s)
include T
theorem bD {t:List UInt8} (ht:yu t=true) {n:Nat} (h:S.is n t=true):jl S n (n+1):=by
 have e:(S.tx n).data.toList=t:=by unfold Src.is at h; simpa using h
 have hk:=Uw T n;rw [e] at hk;unfold yu at ht;refine Ef ?_
 rcases Bool.or_eq_true_iff.1 ht with h1 | h1
 ·right; rw [beq_iff_eq.1 h1] at h; exact h
 ·left; unfold Src.nm; rw [hk]; simpa using h1
omit T in
theorem sQ {n:Nat} {k:Int} (h:(S.kd n == k)=true) (hk:(k == 6 || k == 7 || k == 9)=false):jl S n (n+1):=by
 refine Ef (.inl ?_)
 unfold Src.nm;rw [beq_iff_eq.1 h]; exact hk
theorem dA {t:List UInt8} (ht:yu t=true) (n:Nat):Ret (S.need t n) fun _ m=>jl S n m:=by
 unfold Src.need;exact ax (fun h=>ai (bD T ht h)) (fun _=>jq)
omit T in
theorem gJ {ks:List Int} (hk:∀ k ∈ ks,(k == 6 || k == 7 || k == 9)=true) (n:Nat):Ret (S.take ks n) fun x m=>QN S n [x] m:=by
 unfold Src.take;refine ax (fun h=>ai ⟨fun x hx=>?_,wH ?_⟩) (fun _=>jq)
 ·have:x=n:=by simpa using hx
  omega
 ·exact hk _ (by simpa using h)
omit T in
theorem GV (n:Nat):Ret (S.take [8] n) fun _ m=>jl S n m:=by
 unfold Src.take;refine ax (fun h=>ai (sQ (k:=8) ?_ rfl)) (fun _=>jq)
 simpa using h
theorem LX {ks:List Int} (hk:∀ k ∈ ks,(k == 6 || k == 7 || k == 9)=true) (p:Nat):∀ (f:Nat) (acc:List Nat) (n:Nat),QN S p acc n→Ret (S.pathL ks f acc n) fun l m=>QN S p l m:=by
 intro f
 induction f with
 | zero=>intro acc n _; exact bP
 | succ f ih =>
  intro acc n h;unfold Src.pathL;refine ax (fun hc=>?_) (fun _=>ai h)
  simp only [Bool.and_eq_true] at hc;have hs:=bD T (t:=[46]) (by kernel_rfl) hc.2;exact af (gJ hk (n+1)) (fun x m hx=>ih _ _ (h.cat (hs.qn hx)))
theorem qi {ks:List Int} (hk:∀ k ∈ ks,(k == 6 || k == 7 || k == 9)=true) (n:Nat):Ret (S.path ks n) fun l m=>QN S n l m:=by
 unfold Src.path;exact af (gJ hk n) (fun x m hx=>LX T hk n _ _ _ hx)
theorem lL (n:Nat):Ret (S.typePath n) fun l m=>QN S n l m:=by
 unfold Src.typePath;exact af (qi T (by decide) n) (fun p m hp=>ax (fun _=>ai hp) (fun _=>jq))
theorem wR (n:Nat):Ret (S.value n) fun x m=>QN S n [x] m:=by
 unfold Src.value;refine ax (fun h=>?_) (fun _=>gJ (by decide) n)
 exact (gJ (by decide) (n+1)).mono fun x m hx=>(bD T (by kernel_rfl) h).qn hx
theorem Q8 {mark:List UInt8} (hm:yu mark=true) {read:Nat→Out Pb} (hr:∀ k,Ret (read k) fun b m=>QB S k b m) (p:Nat):∀ (f:Nat) (acc:List Pb) (n:Nat),QL S p acc n→Ret (lJ S mark read f acc n) fun l m=>QL S p l m:=by
 intro f
 induction f with
 | zero=>intro acc n _; exact bP
 | succ f ih =>
  intro acc n h;unfold lJ;refine ax (fun hc=>?_) (fun _=>ai h)
  exact af (hr (n+1)) (fun b m hb=>ih _ _ (h.cat ((bD T hm hc).ql hb.ql)))
theorem nT (F:Nat) {mark:List UInt8} (hm:yu mark=true) {read:Nat→Out Pb} (hr:∀ k,Ret (read k) fun b m=>QB S k b m) (n:Nat):Ret (gI S F mark read n) fun l m=>QL S n l m:=by
 unfold gI;exact af (hr n) (fun b m hb=>Q8 T hm hr n F [b] m hb.ql)
theorem BN (n:Nat) (h:((S.colon n).1 == 0)=false):jl S n (n+1):=by
 unfold Src.colon at h
 cases h1:S.is n [58]
 ·cases h2:S.is n [58,62]
  ·rw [h1,h2] at h; cases h
  ·exact bD T (by kernel_rfl) h2
 ·exact bD T (by kernel_rfl) h1
section
variable {F:Nat} {rec:Nt→Nat→Nat→Out Pb} {d:Nat} (hrec:∀ nt k,S.may nt k→Ret (rec nt d k) fun b m=>QB S k b m)
include hrec
theorem zZ (n:Nat):Ret (dF S F rec d n) fun b m=>QB S n b m:=by
 unfold dF;refine ax (fun h=>ai (eu (by decide) ((QL.nil n).skip (sQ h rfl)))) (fun _=>ax (fun h=>?_) (fun _=>?_))
 ·refine af (nT T F (by kernel_rfl) (fun k=>hrec .ty k trivial) (n+1)) (fun l m hl=>?_)
  refine af (dA T (by kernel_rfl) m) (fun _ m2 h2=>?_)
  have hl2:=(bD T (by kernel_rfl) h).ql (hl.skip h2);unfold qB
  split
  ·exact ai hl2.one
  ·exact af (lL T m2) (fun p m3 hp=>ai (G5 (by decide) hl2 hp))
 ·exact af (lL T n) (fun p m3 hp=>ai (jr (by decide) hp))
theorem CU (n:Nat):∀ (f:Nat) (b:Pb) (m:Nat),QB S n b m→Ret (dG S n f b m) fun b m=>QB S n b m:=by
 have _:=hrec;intro f
 induction f with
 | zero=>intro b m _; exact bP
 | succ f ih =>
  intro b m h;unfold dG;exact ax (fun _=>af (lL T m) (fun p m1 hp=>ih _ _ (G5 (by decide) h.ql hp))) (fun _=>ai h)
theorem BP (n:Nat):Ret (cZ S F rec d n) fun b m=>QB S n b m:=by
 unfold cZ;exact af (zZ T hrec n) (fun b m hb=>CU T hrec n F b m hb)
theorem Ce (n:Nat):Ret (dS S F rec d n) fun b m=>QB S n b m:=by
 unfold dS;exact af (nT T F (by kernel_rfl) (BP T hrec) n) (fun l m hl=>ai (yj (by decide) hl))
theorem Ui (n:Nat):Ret (tyO S F rec d n) fun b m=>QB S n b m:=by
 unfold tyO;refine af (Ce T hrec n) (fun b m hb=>ax (fun h=>?_) (fun _=>ai hb))
 exact af (hrec .ty (m+1) trivial) (fun c m2 hc=>ai (eu (by decide) (hb.ql.cat ((bD T (by kernel_rfl) h).ql hc.ql))))
omit hrec in
theorem J5 {fr n:Nat} (hs:jl S fr n) {member:Nat→Out Pb} (hm:∀ k,Ret (member k) fun b m=>QB S k b m):Ret (iy S F fr member n) fun b m=>QB S fr b m:=by
 unfold iy;refine ax (fun h=>ai (eu (by decide) ((QL.nil fr).skip (hs.cat (bD T (by kernel_rfl) h))))) (fun _=>?_)
 refine af (nT T F (by kernel_rfl) hm n) (fun l m hl=>?_)
 exact af (dA T (by kernel_rfl) m) (fun _ m2 h2=>ai (yj (by decide) (hs.ql (hl.skip h2))))
omit hrec in
theorem zJ {named:Int} (hk:0 < named) {member:Nat→Out Pb} (hm:∀ k,Ret (member k) fun b m=>QB S k b m) (n:Nat):Ret (plainO S F named member n) fun b m=>QB S n b m:=by
 unfold plainO;refine ax (fun h=>ai (eu (by decide) ((QL.nil n).skip (sQ h rfl)))) (fun _=>ax (fun h=>ai (eu (by decide) ((QL.nil n).skip (sQ h rfl)))) (fun _=>ax (fun h=>?_) (fun _=>?_)))
 ·exact J5 T (bD T (by kernel_rfl) h) hm
 ·exact af (wR T n) (fun x m hx=>ai (jr hk hx))
theorem jS (n:Nat):Ret (bQ S F rec d n) fun b m=>QB S n b m:=by
 unfold bQ;refine ax (fun h=>ai (eu (by decide) ((QL.nil n).skip (bD T (by kernel_rfl) h)))) (fun _=>ax (fun _=>?_) (fun _=>zJ T (by decide) (fun k=>hrec .pat k trivial) n))
 exact af (qi T (by decide) n) (fun p m hp=>ai (jr (by decide) hp))
theorem QT (n:Nat):Ret (oH S F rec d n) fun b m=>QB S n b m:=by
 unfold oH;refine ax (fun h=>?_) (fun _=>ax (fun _=>?_) (fun _=>jS T hrec n))
 ·simp only [Bool.and_eq_true,beq_iff_eq] at h
  have h1:QN S n [n] (n+1):=⟨fun x hx=>by have:x=n:=(by simpa using hx); omega,wH (by unfold Src.nm; rw [h.1]; rfl)⟩;exact af (hrec .pat (n+2) trivial) (fun b m hb=>ai (iR (by decide) h1 ((bD T (by kernel_rfl) h.2).ql hb.ql)))
 ·refine af (qi T (by decide) n) (fun p m hp=>ax (fun _=>?_) (fun _=>ai (jr (by decide) hp)))
  exact af (jS T hrec m) (fun b m2 hb=>ai (iR (by decide) hp hb.ql))
theorem N7 (a p:Nat):∀ (f:Nat) (acc:List Pb) (n:Nat),QL S p acc n→Ret (jE S rec d a f acc n) fun l m=>QL S p l m:=by
 intro f
 induction f with
 | zero=>intro acc n _; exact bP
 | succ f ih =>
  intro acc n h;unfold jE;refine ax (fun hc=>ih _ _ (h.skip (bD T (by kernel_rfl) hc))) (fun _=>ax (fun hd=>?_) (fun _=>ai h))
  exact af (hrec (.dec a) n hd) (fun b m hb=>ih _ _ (h.cat hb.ql))
theorem wQ (a n:Nat):Ret (gZ S F rec d a n) fun l m=>QL S n l m:=N7 T hrec a n F [] n (QL.nil n)
theorem qY (a n:Nat):Ret (fA S F rec d a n) fun b m=>QB S n b m:=by
 unfold fA;exact af (wQ T hrec a n) (fun l m hl=>ai (eu (by decide) hl))
theorem Dq (n:Nat):Ret (iE S F rec d n) fun b m=>QB S n b m:=by
 unfold iE;refine ax (fun _=>?_) (fun _=>ax (fun h=>?_) (fun _=>zJ T (by decide) (fun k=>hrec .exp k trivial) n))
 ·exact af (qi T (by decide) n) (fun p m hp=>ax (fun _=>ai (jr (by decide) hp)) (fun _=>ai (jr (by decide) hp)))
 ·refine af (qY T hrec 0 (n+1)) (fun ds m hd=>?_)
  refine af (dA T (by kernel_rfl) m) (fun _ m2 h2=>?_)
  refine af (hrec .exp m2 trivial) (fun e m3 he=>?_)
  exact af (dA T (by kernel_rfl) m3) (fun _ m4 h4=>ai (eu (by decide) (((bD T (by kernel_rfl) h).ql hd.ql).cat (h2.ql (he.ql.skip h4)))))
theorem NQ (p:Nat):∀ (f:Nat) (acc:List Pb) (n:Nat),QL S p acc n→Ret (jc S F rec d f acc n) fun l m=>QL S p l m:=by
 intro f
 induction f with
 | zero=>intro acc n _; exact bP
 | succ f ih =>
  intro acc n h;unfold jc;exact ax (fun _=>af (Dq T hrec n) (fun b m hb=>ih _ _ (h.cat hb.ql))) (fun _=>ai h)
theorem BK (n:Nat):Ret (jD S F rec d n) fun b m=>QB S n b m:=by
 unfold jD;refine af (Dq T hrec n) (fun b m hb=>?_)
 exact af (NQ T hrec n F [b] m hb.ql) (fun l m2 hl=>ai (yj (by decide) hl))
def QI (S:Src) (n:Nat) (l:List Nat × List Pb) (m:Nat):Prop:=l.2.length=l.1.length+1∧df n m l.2∧(∀ x ∈ l.1,n≤x∧x < m)∧Cov S n m fun x=>cnN l.1 x+pK x l.2
theorem Ik (p:Nat):∀ (f:Nat) (sg:List Nat) (acc:List Pb) (n:Nat),QI S p (sg,acc) n→Ret (iO S F rec d f sg acc n) fun l m=>QI S p l m:=by
 intro f
 induction f with
 | zero=>intro sg acc n _; exact bP
 | succ f ih =>
  intro sg acc n h;unfold iO;refine ax (fun _=>?_) (fun _=>ai h)
  refine af (gJ (by decide) n) (fun x m hx=>af (BK T hrec m) (fun b m2 hb=>ih _ _ _ ?_))
  obtain ⟨h1,h2,h3,h4⟩:=h;have i1:=h4.le; have i2:=hx.cov.le; have i3:=hb.cov.le
  have h1':acc.length=sg.length+1:=h1;have h3':∀ x ∈ sg,p≤x∧x < n:=h3
  refine ⟨by simp only [List.length_append,List.length_singleton]; omega,(h2.up (by omega)).cat hb.ql.ch,fun y hy=>?_,((h4.add hx.cov).add hb.cov).ext fun y=>?_⟩
  ·rcases List.mem_append.1 hy with hy | hy
   ·have:=h3' y hy; omega
   ·have:=hx.inn y hy; omega
  ·simp only [xW,oP,pK]; omega
theorem Je (n:Nat):Ret (gz S F rec d n) fun b m=>QB S n b m:=by
 unfold gz;refine af (BK T hrec n) (fun b m hb=>?_)
 refine af (Ik T hrec n F [] [b] m ⟨rfl,hb.ql.ch,fun x hx=>(by cases hx),hb.ql.cov.ext fun x=>by simp [Ah]⟩) (fun l m2 hl=>ai ?_)
 obtain ⟨sg,ks⟩:=l;obtain ⟨h1,h2,h3,h4⟩:=hl;have h1:ks.length=sg.length+1:=h1;have h2:df n m2 ks:=h2;have h4:Cov S n m2 fun x=>cnN sg x+pK x ks:=h4
 show QB S n (fJ ks 37 n m2 sg) m2
 unfold fJ
 split
 ·next b =>
  have h1:1=sg.length+1:=h1
  have:sg=[]:=List.length_eq_zero_iff.1 (by omega)
  subst this;exact QL.one ⟨h2,h4.ext fun x=>by simp [Ah]⟩
 ·exact mO (by decide) h3 h2 h4 (fun _=>rfl)
theorem xq {k:Int} (hk:0 < k) {fr n:Nat} (hs:jl S fr n):Ret (fB S rec d k fr n) fun b m=>QB S fr b m:=by
 unfold fB;refine af (hrec .pat n trivial) (fun p m hp=>?_)
 refine af (dA T (by kernel_rfl) m) (fun _ m2 h2=>?_)
 exact af (hrec .exp m2 trivial) (fun e m3 he=>ai (eu hk ((hs.ql hp.ql).cat (h2.ql he.ql))))
theorem Qk (n:Nat):Ret (yC S rec d n) fun b m=>QB S n b m:=xq T hrec (by decide) (jl.nil n)
theorem Rl (n:Nat):Ret (oD S F rec d n) fun b m=>QB S n b m:=by
 unfold oD;refine ax (fun h=>?_) (fun _=>ax (fun h=>?_) (fun _=>ax (fun h=>?_) (fun _=>Je T hrec n)))
 ·refine af (hrec .exp (n+1) trivial) (fun a m ha=>?_)
  refine af (dA T (by kernel_rfl) m) (fun _ m2 h2=>?_)
  refine af (hrec .exp m2 trivial) (fun b m3 hb=>?_)
  refine af (dA T (by kernel_rfl) m3) (fun _ m4 h4=>?_)
  exact af (hrec .exp m4 trivial) (fun c m5 hc=>ai (eu (by decide) (((bD T (by kernel_rfl) h).ql ha.ql).cat ((h2.ql hb.ql).cat (h4.ql hc.ql)))))
 ·refine af (hrec .exp (n+1) trivial) (fun a m ha=>?_)
  refine af (dA T (by kernel_rfl) m) (fun _ m2 h2=>?_)
  exact af (nT T F (by kernel_rfl) (Qk T hrec) m2) (fun l m3 hl=>ai (eu (by decide) (((bD T (by kernel_rfl) h).ql ha.ql).cat (h2.ql hl))))
 ·exact xq T hrec (by decide) (bD T (by kernel_rfl) h)
omit hrec in
theorem LY (p:Nat):∀ (f n:Nat),jl S p n→Ret (jv S f n) fun _ m=>jl S p m:=by
 intro f
 induction f with
 | zero=>intro n _; exact bP
 | succ f ih =>
  intro n h;unfold jv;exact ax (fun hc=>af (GV (n+1)) (fun _ m hm=>ih _ ((h.cat (bD T (by kernel_rfl) hc)).cat hm))) (fun _=>ai h)
omit hrec in
theorem nN (n:Nat):Ret (bT S F n) fun x m=>QN S n [x] m:=by
 unfold bT;refine ax (fun h=>?_) (fun _=>ax (fun h=>?_) (fun _=>gJ (by decide) n))
 ·exact (gJ (by decide) (n+1)).mono fun x m hx=>(sQ h rfl).qn hx
 ·refine af (GV (n+1)) (fun _ m hm=>?_)
  refine af (LY T (n+1) F m hm) (fun _ m2 h2=>?_)
  refine af (dA T (by kernel_rfl) m2) (fun _ m3 h3=>?_)
  exact (gJ (by decide) m3).mono fun x m hx=>((bD T (by kernel_rfl) h).cat (h2.cat h3)).qn hx
theorem Rf (n:Nat):Ret (lW S rec d n) fun b m=>QB S n b m:=by
 unfold lW;refine af (gJ (by decide) n) (fun x m hx=>ax (fun h=>?_) (fun _=>ai (jr (by decide) hx)))
 exact af (hrec .ty (m+1) trivial) (fun b m2 hb=>ai (iR (by decide) hx ((bD T (by kernel_rfl) h).ql hb.ql)))
theorem Jp (n:Nat):Ret (fV S F rec d n) fun b m=>QB S n b m:=by
 unfold fV;refine af (nN T n) (fun x m hx=>?_)
 refine af (dA T (by kernel_rfl) m) (fun _ m2 h2=>?_)
 exact af (nT T F (by kernel_rfl) (Rf T hrec) m2) (fun l m3 hl=>ai (iR (by decide) hx (h2.ql hl)))
theorem qC {fr n:Nat} (hs:jl S fr n):Ret (bU S F rec d fr n) fun b m=>QB S fr b m:=by
 unfold bU;exact af (nT T F (by kernel_rfl) (Jp T hrec) n) (fun l m hl=>ai (eu (by decide) (hs.ql hl)))
theorem OG (n:Nat):Ret (jF S F rec d n) fun b m=>QB S n b m:=by
 unfold jF;refine ax (fun h=>?_) (fun _=>ax (fun h=>?_) (fun _=>ax (fun h=>?_) (fun _=>ax (fun h=>?_) (fun _=>?_))))
 ·refine af (wR T (n+1)) (fun x m hx=>?_)
  refine af (dA T (by kernel_rfl) m) (fun _ m2 h2=>?_)
  exact af (hrec .ty m2 trivial) (fun b m3 hb=>ai (iR (by decide) ((bD T (by kernel_rfl) h).qn hx) (h2.ql hb.ql)))
 ·refine af (nN T (n+1)) (fun x m hx=>ax (fun h2=>?_) (fun _=>ai (jr (by decide) ((bD T (by kernel_rfl) h).qn hx))))
  exact af (hrec .ty (m+1) trivial) (fun b m3 hb=>ai (iR (by decide) ((bD T (by kernel_rfl) h).qn hx) ((bD T (by kernel_rfl) h2).ql hb.ql)))
 ·exact qC T hrec (bD T (by kernel_rfl) h)
 ·refine af (gJ (by decide) (n+1)) (fun x m hx=>?_)
  refine af (dA T (by kernel_rfl) m) (fun _ m2 h2=>?_)
  exact af (hrec .sig m2 trivial) (fun b m3 hb=>ai (iR (by decide) ((bD T (by kernel_rfl) h).qn hx) (h2.ql hb.ql)))
 ·refine af (dA T (by kernel_rfl) n) (fun _ m2 h2=>?_)
  exact af (hrec .sig m2 trivial) (fun b m3 hb=>ai (eu (by decide) (h2.ql hb.ql)))
theorem IY (p:Nat):∀ (f:Nat) (acc:List Pb) (n:Nat),QL S p acc n→Ret (iC S F rec d f acc n) fun l m=>QL S p l m:=by
 intro f
 induction f with
 | zero=>intro acc n _; exact bP
 | succ f ih =>
  intro acc n h;unfold iC;refine ax (fun hc=>ai (h.skip (bD T (by kernel_rfl) hc))) (fun _=>ax (fun hc=>ih _ _ (h.skip (bD T (by kernel_rfl) hc))) (fun _=>?_))
  exact af (OG T hrec n) (fun b m hb=>ih _ _ (h.cat hb.ql))
theorem Eo (n:Nat):Ret (dY S F rec d n) fun b m=>QB S n b m:=by
 unfold dY;refine ax (fun h=>?_) (fun _=>af (gJ (by decide) n) (fun x m hx=>ai (jr (by decide) hx)))
 exact af (IY T hrec (n+1) F [] (n+1) (QL.nil _)) (fun l m hl=>ai (eu (by decide) ((bD T (by kernel_rfl) h).ql hl)))
theorem Js (p:Nat):∀ (f:Nat) (b:Pb) (n:Nat),QB S p b n→Ret (iM S rec d p f b n) fun b m=>QB S p b m:=by
 intro f
 induction f with
 | zero=>intro b n _; exact bP
 | succ f ih =>
  intro b n h;unfold iM;refine ax (fun hc=>?_) (fun _=>ai h)
  refine af (dA T (by kernel_rfl) (n+1)) (fun _ m h1=>?_)
  refine af (lL T m) (fun p m2 hp=>?_)
  refine af (dA T (by kernel_rfl) m2) (fun _ m3 h3=>?_)
  exact af (hrec .ty m3 trivial) (fun c m4 hb=>ih _ _ (LM (l:=[b]) (r:=[c]) (by decide) (h.ql.skip ((bD T (by kernel_rfl) hc).cat h1)) hp (h3.ql hb.ql)))
theorem Qd (n:Nat):Ret (nJ S F rec d n) fun b m=>QB S n b m:=by
 unfold nJ;exact af (Eo T hrec n) (fun b m hb=>Js T hrec n F b m hb)
theorem DL (n:Nat):Ret (dW S F rec d n) fun b m=>QB S n b m:=by
 unfold dW;refine ax (fun h=>?_) (fun _=>ax (fun h=>?_) (fun _=>af (qi T (by decide) n) (fun p m hp=>ai (jr (by decide) hp))))
 ·refine af (wQ T hrec 1 (n+1)) (fun l m hl=>?_)
  exact af (dA T (by kernel_rfl) m) (fun _ m2 h2=>ai (eu (by decide) ((bD T (by kernel_rfl) h).ql (hl.skip h2))))
 ·simp only [Bool.and_eq_true,beq_iff_eq] at h
  have h1:QN S n [n] (n+1):=⟨fun x hx=>by have:x=n:=(by simpa using hx); omega,wH (by unfold Src.nm; rw [h.1]; rfl)⟩;refine af (hrec .str (n+2) trivial) (fun b m hb=>?_)
  exact af (dA T (by kernel_rfl) m) (fun _ m2 h2=>ai (iR (by decide) h1 ((bD T (by kernel_rfl) h.2).ql (hb.ql.skip h2))))
theorem Ou (p:Nat):∀ (f:Nat) (b:Pb) (n:Nat),QB S p b n→Ret (jZ S rec d p f b n) fun b m=>QB S p b m:=by
 intro f
 induction f with
 | zero=>intro b n _; exact bP
 | succ f ih =>
  intro b n h;unfold jZ;refine ax (fun _=>ai h) (fun hc=>?_)
  exact af (hrec .sig (n+1) trivial) (fun s m hs=>ih _ _ (QB.marked (eu (by decide) (h.ql.cat ((BN T n hc).ql hs.ql)))))
theorem PX (n:Nat):Ret (nV S F rec d n) fun b m=>QB S n b m:=by
 unfold nV;exact af (DL T hrec n) (fun b m hb=>Ou T hrec n F b m hb)
theorem Di (n:Nat):Ret (jA S rec d n) fun l m=>QL S n l.2 m:=by
 unfold jA;refine af (P:=fun l m=>QL S n l m) (ax (fun _=>ai (QL.nil n)) (fun hc=>?_)) (fun l m hl=>?_)
 ·exact af (hrec .sig (n+1) trivial) (fun s m hs=>ai ((BN T n hc).ql hs.ql))
 ·refine af (dA T (by kernel_rfl) m) (fun _ m2 h2=>?_)
  exact af (hrec .str m2 trivial) (fun b m3 hb=>ai (hl.cat (h2.ql hb.ql)))
theorem yI {fr n:Nat} (hs:jl S fr n):Ret (cu S rec d fr n) fun b m=>QB S fr b m:=by
 unfold cu;refine af (gJ (by decide) n) (fun x m hx=>?_)
 exact af (Di T hrec m) (fun l m2 hl=>ai (QB.marked (iR (by decide) (hs.qn hx) hl)))
theorem Dp {fr n:Nat} (hs:jl S fr n):Ret (dU S rec d fr n) fun b m=>QB S fr b m:=by
 unfold dU;refine af (gJ (by decide) n) (fun x m hx=>?_)
 refine af (dA T (by kernel_rfl) m) (fun _ m2 h2=>?_)
 refine af (gJ (by decide) m2) (fun y m3 hy=>?_)
 refine af (dA T (by kernel_rfl) m3) (fun _ m4 h4=>?_)
 refine af (hrec .sig m4 trivial) (fun g m5 hg=>?_)
 refine af (dA T (by kernel_rfl) m5) (fun _ m6 h6=>?_)
 exact af (Di T hrec m6) (fun l m7 hl=>ai (QB.marked (iR (ns:=[x]++[y]) (by decide) (hs.qn (hx.cat (h2.qn hy))) (h4.ql (hg.ql.cat (h6.ql hl))))))
theorem Qs (p:Nat):∀ (f:Nat) (acc:List Pb) (n:Nat),QL S p acc n→Ret (pg S F rec d f acc n) fun l m=>QL S p l m:=by
 intro f
 induction f with
 | zero=>intro acc n _; exact bP
 | succ f ih =>
  intro acc n h;unfold pg;exact ax (fun _=>af (jS T hrec n) (fun b m hb=>ih _ _ (h.cat hb.ql))) (fun _=>ai h)
theorem Aj (n:Nat):Ret (cO S F rec d n) fun b m=>QB S n b m:=by
 unfold cO;refine af (wR T n) (fun x m hx=>?_)
 refine af (jS T hrec m) (fun b m2 hb=>?_)
 refine af (Qs T hrec m F [b] m2 hb.ql) (fun l m3 hl=>?_)
 refine af (dA T (by kernel_rfl) m3) (fun _ m4 h4=>?_)
 exact af (hrec .exp m4 trivial) (fun e m5 he=>ai (iR (by decide) hx (hl.cat (h4.ql he.ql))))
theorem J4 {fr n:Nat} (hs:jl S fr n) (a:Nat):Ret (iw S F rec d fr a n) fun b m=>QB S fr b m:=by
 unfold iw;refine af (qY T hrec a n) (fun x m hx=>?_)
 refine af (dA T (by kernel_rfl) m) (fun _ m2 h2=>?_)
 refine af (qY T hrec a m2) (fun y m3 hy=>?_)
 exact af (dA T (by kernel_rfl) m3) (fun _ m4 h4=>ai (eu (by decide) ((hs.ql hx.ql).cat (h2.ql (hy.ql.skip h4)))))
theorem Ql (a n:Nat) (hl:declares S a n=true):Ret (nX S F rec d a n) fun b m=>QB S n b m:=by
 unfold nX;refine ax (fun h=>?_) (fun q1=>ax (fun h=>?_) (fun q2=>ax (fun h=>?_) (fun q3=>ax (fun h=>?_) (fun q4=>ax (fun h=>?_) (fun q5=>ax (fun h=>?_) (fun q6=>ax (fun h=>?_) (fun q7=>ax (fun h=>?_) (fun q8=>?_))))))))
 ·refine af (hrec .pat (n+1) trivial) (fun p m hp=>?_)
  refine af (dA T (by kernel_rfl) m) (fun _ m2 h2=>?_)
  exact af (hrec .exp m2 trivial) (fun e m3 he=>ai (eu (by decide) (((bD T (by kernel_rfl) h).ql hp.ql).cat (h2.ql he.ql))))
 ·exact af (nT T F (by kernel_rfl) (Aj T hrec) (n+1)) (fun l m hl=>ai (eu (by decide) ((bD T (by kernel_rfl) h).ql hl)))
 ·refine af (nN T (n+1)) (fun x m hx=>?_)
  refine af (dA T (by kernel_rfl) m) (fun _ m2 h2=>?_)
  exact af (hrec .ty m2 trivial) (fun b m3 hb=>ai (iR (by decide) ((bD T (by kernel_rfl) h).qn hx) (h2.ql hb.ql)))
 ·exact qC T hrec (bD T (by kernel_rfl) h)
 ·exact yI T hrec (bD T (by kernel_rfl) h)
 ·refine af (gJ (by decide) (n+1)) (fun x m hx=>?_)
  refine af (dA T (by kernel_rfl) m) (fun _ m2 h2=>?_)
  exact af (hrec .sig m2 trivial) (fun b m3 hb=>ai (iR (by decide) ((bD T (by kernel_rfl) h).qn hx) (h2.ql hb.ql)))
 ·exact Dp T hrec (bD T (by kernel_rfl) h)
 ·exact af (qi T (by decide) (n+1)) (fun p m hp=>ai (jr (by decide) ((bD T (by kernel_rfl) h).qn hp)))
 ·refine J4 T hrec (bD T (t:=[108,111,99,97,108]) (by kernel_rfl) ?_) a
  unfold declares at hl;simp only [q1,q2,q3,q4,q5,q6,q7,q8,Bool.or_self,Bool.false_or,cond_false] at hl;exact hl
end
theorem LK:∀ (f:Nat) (nt:Nt) (d n:Nat),S.may nt n→Ret (parts S f nt d n) fun b m=>QB S n b m:=by
 intro f
 induction f with
 | zero=>intro nt d n _; exact bP
 | succ f ih =>
  intro nt d n hm;unfold parts;refine ax (fun _=>wZ) (fun _=>?_)
  have hrec:∀ nt k,S.may nt k→Ret (parts S f nt (d+1) k) fun b m=>QB S k b m:=fun nt k hk=>ih nt (d+1) k hk
  cases nt with
  | exp=>exact Rl T hrec n
  | pat=>exact QT T hrec n
  | ty=>exact Ui T hrec n
  | sig=>exact Qd T hrec n
  | str=>exact PX T hrec n
  | dec a=>exact Ql T hrec a n hm
theorem MS (F:Nat):Ret (jk S F 0) fun b m=>QB S 0 b m:=by
 unfold jk;exact af (wQ T (F:=F) (rec:=parts S F) (d:=0) (fun nt k hk=>LK T F nt 0 k hk) 2 0) (fun l m hl=>ai (eu (by decide) hl))
end
mutual
def Pb.wt:Pb→Nat
 | .mk _ _ _ _ ns ks=>1+ns.length+wtL ks
def wtL:List Pb→Nat
 | []=>0
 | b :: r=>b.wt+wtL r
end
theorem gq (a b:List Pb):wtL (a++b)=wtL a+wtL b:=by
 induction a with
 | nil=>simp [wtL]
 | cons y r ih=>simp [wtL,ih]; omega
theorem aY (k:Int) (f t:Nat) (ns:List Nat) (l:List Pb):(node k f t ns l).wt=1+ns.length+wtL l:=by
 simp [node,Pb.wt]
theorem uy (m:Int) (b:Pb):(marked m b).wt=b.wt:=by
 cases b; simp [marked,Pb.wt]
theorem sV {l:List Pb} {k:Int} {f t:Nat} {ns:List Nat} {n m:Nat} (h:wtL l+l.length+ns.length+3 * n≤3 * m) (h1:1≤l.length):(fJ l k f t ns).wt+1+3 * n≤3 * m:=by
 unfold fJ
 split
 ·simp [wtL] at h; omega
 ·next hne =>
  rw [aY]
  match l,hne,h1 with
  | a :: b :: r,_,_=>simp only [List.length_cons] at h ⊢; omega
  | [a],hne,_=>exact absurd rfl (hne a)
section
variable {S:Src}
theorem dC {t:List UInt8} (n:Nat):Ret (S.need t n) fun _ m=>m=n+1:=by
 unfold Src.need;exact ax (fun h=>ai rfl) (fun _=>jq)
theorem fU {ks:List Int} (n:Nat):Ret (S.take ks n) fun x m=>m=n+1:=by
 unfold Src.take;exact ax (fun h=>ai rfl) (fun _=>jq)
theorem NC {ks:List Int} (p:Nat):∀ (f:Nat) (acc:List Nat) (n:Nat),1≤acc.length→acc.length+p≤n→Ret (S.pathL ks f acc n) fun l m=>1≤l.length∧l.length+p≤m:=by
 intro f
 induction f with
 | zero=>intro acc n _ _; exact bP
 | succ f ih =>
  intro acc n h0 h;unfold Src.pathL;refine ax (fun hc=>?_) (fun _=>ai ⟨h0,h⟩)
  exact af (fU (n+1)) (fun x m hx=>ih _ _ (by simp) (by simp; omega))
theorem pU {ks:List Int} (n:Nat):Ret (S.path ks n) fun l m=>1≤l.length∧l.length+n≤m:=by
 unfold Src.path;exact af (fU n) (fun x m hx=>NC n _ _ _ (by simp) (by simp; omega))
theorem lM (n:Nat):Ret (S.typePath n) fun l m=>1≤l.length∧l.length+n≤m:=by
 unfold Src.typePath;exact af (pU n) (fun p m hp=>ax (fun _=>ai hp) (fun _=>jq))
theorem xG (n:Nat):Ret (S.value n) fun x m=>n+1≤m:=by
 unfold Src.value;refine ax (fun h=>?_) (fun _=>(fU n).mono fun x m hx=>by omega)
 exact (fU (n+1)).mono fun x m hx=>by omega
theorem Qr {mark:List UInt8} {read:Nat→Out Pb} (hr:∀ k,Ret (read k) fun b m=>b.wt+1+3 * k≤3 * m) (p:Nat):∀ (f:Nat) (acc:List Pb) (n:Nat),1≤acc.length→wtL acc+acc.length+3 * p≤3 * n→Ret (lJ S mark read f acc n) fun l m=>1≤l.length∧wtL l+l.length+3 * p≤3 * m:=by
 intro f
 induction f with
 | zero=>intro acc n _ _; exact bP
 | succ f ih =>
  intro acc n h0 h;unfold lJ;refine ax (fun hc=>?_) (fun _=>ai ⟨h0,h⟩)
  exact af (hr (n+1)) (fun b m hb=>ih _ _ (by simp) (by simp only [gq,wtL,List.length_append,List.length_singleton]; omega))
theorem nG (F:Nat) {mark:List UInt8} {read:Nat→Out Pb} (hr:∀ k,Ret (read k) fun b m=>b.wt+1+3 * k≤3 * m) (n:Nat):Ret (gI S F mark read n) fun l m=>1≤l.length∧wtL l+l.length+3 * n≤3 * m:=by
 unfold gI;exact af (hr n) (fun b m hb=>Qr hr n F [b] m (by simp) (by simp [wtL]; omega))
section
variable {F:Nat} {rec:Nt→Nat→Nat→Out Pb} {d:Nat} (hrec:∀ nt k,S.may nt k→Ret (rec nt d k) fun b m=>b.wt+1+3 * k≤3 * m)
include hrec
theorem Aa (n:Nat):Ret (dF S F rec d n) fun b m=>b.wt+1+3 * n≤3 * m:=by
 unfold dF;refine ax (fun h=>ai (by simp [aY,wtL]; omega)) (fun _=>ax (fun h=>?_) (fun _=>?_))
 ·refine af (nG F (fun k=>hrec .ty k trivial) (n+1)) (fun l m hl=>?_)
  refine af (dC m) (fun _ m2 h2=>?_)
  unfold qB
  split
  ·exact ai (by simp only [wtL,List.length_singleton] at hl; omega)
  ·exact af (lM m2) (fun p m3 hp=>ai (by rw [aY]; omega))
 ·exact af (lM n) (fun p m3 hp=>ai (by simp only [aY,wtL]; omega))
theorem DY (n:Nat):∀ (f:Nat) (b:Pb) (m:Nat),b.wt+1+3 * n≤3 * m→Ret (dG S n f b m) fun b m=>b.wt+1+3 * n≤3 * m:=by
 have _:=hrec;intro f
 induction f with
 | zero=>intro b m _; exact bP
 | succ f ih =>
  intro b m h;unfold dG;exact ax (fun _=>af (lM m) (fun p m1 hp=>ih _ _ (by simp only [aY,wtL]; omega))) (fun _=>ai h)
theorem BU (n:Nat):Ret (cZ S F rec d n) fun b m=>b.wt+1+3 * n≤3 * m:=by
 unfold cZ;exact af (Aa hrec n) (fun b m hb=>DY hrec n F b m hb)
theorem Dk (n:Nat):Ret (dS S F rec d n) fun b m=>b.wt+1+3 * n≤3 * m:=by
 unfold dS;exact af (nG F (BU hrec) n) (fun l m hl=>ai (sV (by simpa using hl.2) hl.1))
theorem UQ (n:Nat):Ret (tyO S F rec d n) fun b m=>b.wt+1+3 * n≤3 * m:=by
 unfold tyO;refine af (Dk hrec n) (fun b m hb=>ax (fun h=>?_) (fun _=>ai hb))
 exact af (hrec .ty (m+1) trivial) (fun c m2 hc=>ai (by simp only [aY,wtL,List.length_nil]; omega))
omit hrec in
theorem Ii {fr n:Nat} (hs:fr+1≤n) {member:Nat→Out Pb} (hm:∀ k,Ret (member k) fun b m=>b.wt+1+3 * k≤3 * m):Ret (iy S F fr member n) fun b m=>b.wt+1+3 * fr≤3 * m:=by
 unfold iy;refine ax (fun h=>ai (by simp only [aY,wtL,List.length_nil]; omega)) (fun _=>?_)
 refine af (nG F hm n) (fun l m hl=>?_)
 exact af (dC m) (fun _ m2 h2=>ai (sV (by simp only [List.length_nil]; omega) hl.1))
omit hrec in
theorem zh {named:Int} {member:Nat→Out Pb} (hm:∀ k,Ret (member k) fun b m=>b.wt+1+3 * k≤3 * m) (n:Nat):Ret (plainO S F named member n) fun b m=>b.wt+1+3 * n≤3 * m:=by
 unfold plainO;refine ax (fun h=>ai (by simp only [aY,wtL,List.length_nil]; omega)) (fun _=>ax (fun h=>ai (by simp only [aY,wtL,List.length_nil]; omega)) (fun _=>ax (fun h=>?_) (fun _=>?_)))
 ·exact Ii (by omega) hm
 ·exact af (xG n) (fun x m hx=>ai (by simp only [aY,wtL,List.length_singleton]; omega))
theorem jU (n:Nat):Ret (bQ S F rec d n) fun b m=>b.wt+1+3 * n≤3 * m:=by
 unfold bQ;refine ax (fun h=>ai (by simp only [aY,wtL,List.length_nil]; omega)) (fun _=>ax (fun _=>?_) (fun _=>zh (fun k=>hrec .pat k trivial) n))
 exact af (pU n) (fun p m hp=>ai (by simp only [aY,wtL]; omega))
theorem QM (n:Nat):Ret (oH S F rec d n) fun b m=>b.wt+1+3 * n≤3 * m:=by
 unfold oH;refine ax (fun h=>?_) (fun _=>ax (fun _=>?_) (fun _=>jU hrec n))
 ·exact af (hrec .pat (n+2) trivial) (fun b m hb=>ai (by simp only [aY,wtL,List.length_singleton]; omega))
 ·refine af (pU n) (fun p m hp=>ax (fun _=>?_) (fun _=>ai (by simp only [aY,wtL]; omega)))
  exact af (jU hrec m) (fun b m2 hb=>ai (by simp only [aY,wtL]; omega))
theorem Oc (a p:Nat):∀ (f:Nat) (acc:List Pb) (n:Nat),wtL acc+acc.length+3 * p≤3 * n→Ret (jE S rec d a f acc n) fun l m=>wtL l+l.length+3 * p≤3 * m:=by
 intro f
 induction f with
 | zero=>intro acc n _; exact bP
 | succ f ih =>
  intro acc n h;unfold jE;refine ax (fun hc=>ih _ _ (by omega)) (fun _=>ax (fun hd=>?_) (fun _=>ai h))
  exact af (hrec (.dec a) n hd) (fun b m hb=>ih _ _ (by simp only [gq,wtL,List.length_append,List.length_singleton]; omega))
theorem wE (a n:Nat):Ret (gZ S F rec d a n) fun l m=>wtL l+l.length+3 * n≤3 * m:=Oc hrec a n F [] n (by simp [wtL])
theorem rP (a n:Nat):Ret (fA S F rec d a n) fun b m=>b.wt+3 * n≤3 * m+1:=by
 unfold fA;exact af (wE hrec a n) (fun l m hl=>ai (by simp only [aY,List.length_nil]; omega))
theorem Es (n:Nat):Ret (iE S F rec d n) fun b m=>b.wt+1+3 * n≤3 * m:=by
 unfold iE;refine ax (fun _=>?_) (fun _=>ax (fun h=>?_) (fun _=>zh (fun k=>hrec .exp k trivial) n))
 ·exact af (pU n) (fun p m hp=>ax (fun _=>ai (by simp only [aY,wtL]; omega)) (fun _=>ai (by simp only [aY,wtL]; omega)))
 ·refine af (rP hrec 0 (n+1)) (fun ds m hd=>?_)
  refine af (dC m) (fun _ m2 h2=>?_)
  refine af (hrec .exp m2 trivial) (fun e m3 he=>?_)
  exact af (dC m3) (fun _ m4 h4=>ai (by simp only [aY,wtL,List.length_nil]; omega))
theorem OH (p:Nat):∀ (f:Nat) (acc:List Pb) (n:Nat),1≤acc.length→wtL acc+acc.length+3 * p≤3 * n→Ret (jc S F rec d f acc n) fun l m=>1≤l.length∧wtL l+l.length+3 * p≤3 * m:=by
 intro f
 induction f with
 | zero=>intro acc n _ _; exact bP
 | succ f ih =>
  intro acc n h0 h;unfold jc;exact ax (fun _=>af (Es hrec n) (fun b m hb=>ih _ _ (by simp) (by simp only [gq,wtL,List.length_append,List.length_singleton]; omega))) (fun _=>ai ⟨h0,h⟩)
theorem Cb (n:Nat):Ret (jD S F rec d n) fun b m=>b.wt+1+3 * n≤3 * m:=by
 unfold jD;refine af (Es hrec n) (fun b m hb=>?_)
 exact af (OH hrec n F [b] m (by simp) (by simp [wtL]; omega)) (fun l m2 hl=>ai (sV (by simpa using hl.2) hl.1))
theorem IJ (p:Nat):∀ (f:Nat) (sg:List Nat) (acc:List Pb) (n:Nat),1≤acc.length→wtL acc+acc.length+sg.length+3 * p≤3 * n→Ret (iO S F rec d f sg acc n) fun l m=>1≤l.2.length∧wtL l.2+l.2.length+l.1.length+3 * p≤3 * m:=by
 intro f
 induction f with
 | zero=>intro sg acc n _ _; exact bP
 | succ f ih =>
  intro sg acc n h0 h;unfold iO;refine ax (fun _=>?_) (fun _=>ai ⟨h0,h⟩)
  exact af (fU n) (fun x m hx=>af (Cb hrec m) (fun b m2 hb=>ih _ _ _ (by simp) (by simp only [gq,wtL,List.length_append,List.length_singleton]; omega)))
theorem I9 (n:Nat):Ret (gz S F rec d n) fun b m=>b.wt+1+3 * n≤3 * m:=by
 unfold gz;refine af (Cb hrec n) (fun b m hb=>?_)
 exact af (IJ hrec n F [] [b] m (by simp) (by simp [wtL]; omega)) (fun l m2 hl=>ai (sV hl.2 hl.1))
theorem wM {k:Int} {fr n:Nat} (hs:fr≤n):Ret (fB S rec d k fr n) fun b m=>b.wt+1+3 * fr≤3 * m:=by
 unfold fB;refine af (hrec .pat n trivial) (fun p m hp=>?_)
 refine af (dC m) (fun _ m2 h2=>?_)
 exact af (hrec .exp m2 trivial) (fun e m3 he=>ai (by simp only [aY,wtL,List.length_nil]; omega))
theorem PU (n:Nat):Ret (yC S rec d n) fun b m=>b.wt+1+3 * n≤3 * m:=wM hrec (Nat.le_refl _)
theorem QE (n:Nat):Ret (oD S F rec d n) fun b m=>b.wt+1+3 * n≤3 * m:=by
 unfold oD;refine ax (fun h=>?_) (fun _=>ax (fun h=>?_) (fun _=>ax (fun h=>?_) (fun _=>I9 hrec n)))
 ·refine af (hrec .exp (n+1) trivial) (fun a m ha=>?_)
  refine af (dC m) (fun _ m2 h2=>?_)
  refine af (hrec .exp m2 trivial) (fun b m3 hb=>?_)
  refine af (dC m3) (fun _ m4 h4=>?_)
  exact af (hrec .exp m4 trivial) (fun c m5 hc=>ai (by simp only [aY,wtL,List.length_nil]; omega))
 ·refine af (hrec .exp (n+1) trivial) (fun a m ha=>?_)
  refine af (dC m) (fun _ m2 h2=>?_)
  exact af (nG F (PU hrec) m2) (fun l m3 hl=>ai (by simp only [aY,gq,wtL,List.length_nil]; omega))
 ·exact wM hrec (by omega)
omit hrec in
theorem OZ:∀ (f n:Nat),Ret (jv S f n) fun _ m=>n≤m:=by
 intro f
 induction f with
 | zero=>intro n; exact bP
 | succ f ih =>
  intro n;unfold jv;exact ax (fun hc=>af (fU (n+1)) (fun _ m hm=>(ih m).mono fun _ m2 h=>by omega)) (fun _=>ai (Nat.le_refl _))
omit hrec in
theorem nR (n:Nat):Ret (bT S F n) fun x m=>n+1≤m:=by
 unfold bT;refine ax (fun h=>?_) (fun _=>ax (fun h=>?_) (fun _=>(fU n).mono fun x m hx=>by omega))
 ·exact (fU (n+1)).mono fun x m hx=>by omega
 ·refine af (fU (n+1)) (fun _ m hm=>?_)
  refine af (OZ F m) (fun _ m2 h2=>?_)
  refine af (dC m2) (fun _ m3 h3=>?_)
  exact (fU m3).mono fun x m hx=>by omega
theorem Qz (n:Nat):Ret (lW S rec d n) fun b m=>b.wt+1+3 * n≤3 * m:=by
 unfold lW;refine af (fU n) (fun x m hx=>ax (fun h=>?_) (fun _=>ai (by simp only [aY,wtL,List.length_singleton]; omega)))
 exact af (hrec .ty (m+1) trivial) (fun b m2 hb=>ai (by simp only [aY,wtL,List.length_singleton]; omega))
theorem JQ (n:Nat):Ret (fV S F rec d n) fun b m=>b.wt+1+3 * n≤3 * m:=by
 unfold fV;refine af (nR n) (fun x m hx=>?_)
 refine af (dC m) (fun _ m2 h2=>?_)
 exact af (nG F (Qz hrec) m2) (fun l m3 hl=>ai (by simp only [aY,List.length_singleton]; omega))
theorem qK {fr n:Nat} (hs:fr+1≤n):Ret (bU S F rec d fr n) fun b m=>b.wt+1+3 * fr≤3 * m:=by
 unfold bU;exact af (nG F (JQ hrec) n) (fun l m hl=>ai (by simp only [aY,List.length_nil]; omega))
theorem NS (n:Nat):Ret (jF S F rec d n) fun b m=>b.wt+1+3 * n≤3 * m:=by
 unfold jF;refine ax (fun h=>?_) (fun _=>ax (fun h=>?_) (fun _=>ax (fun h=>?_) (fun _=>ax (fun h=>?_) (fun _=>?_))))
 ·refine af (xG (n+1)) (fun x m hx=>?_)
  refine af (dC m) (fun _ m2 h2=>?_)
  exact af (hrec .ty m2 trivial) (fun b m3 hb=>ai (by simp only [aY,wtL,List.length_singleton]; omega))
 ·refine af (nR (n+1)) (fun x m hx=>ax (fun h2=>?_) (fun _=>ai (by simp only [aY,wtL,List.length_singleton]; omega)))
  exact af (hrec .ty (m+1) trivial) (fun b m3 hb=>ai (by simp only [aY,wtL,List.length_singleton]; omega))
 ·exact qK hrec (by omega)
 ·refine af (fU (n+1)) (fun x m hx=>?_)
  refine af (dC m) (fun _ m2 h2=>?_)
  exact af (hrec .sig m2 trivial) (fun b m3 hb=>ai (by simp only [aY,wtL,List.length_singleton]; omega))
 ·refine af (dC n) (fun _ m2 h2=>?_)
  exact af (hrec .sig m2 trivial) (fun b m3 hb=>ai (by simp only [aY,wtL,List.length_nil]; omega))
theorem Ju (p:Nat):∀ (f:Nat) (acc:List Pb) (n:Nat),wtL acc+acc.length+3 * p≤3 * n→Ret (iC S F rec d f acc n) fun l m=>wtL l+l.length+3 * p≤3 * m:=by
 intro f
 induction f with
 | zero=>intro acc n _; exact bP
 | succ f ih =>
  intro acc n h;unfold iC;refine ax (fun hc=>ai (by omega)) (fun _=>ax (fun hc=>ih _ _ (by omega)) (fun _=>?_))
  exact af (NS hrec n) (fun b m hb=>ih _ _ (by simp only [gq,wtL,List.length_append,List.length_singleton]; omega))
theorem Cm (n:Nat):Ret (dY S F rec d n) fun b m=>b.wt+1+3 * n≤3 * m:=by
 unfold dY;refine ax (fun h=>?_) (fun _=>af (fU n) (fun x m hx=>ai (by simp only [aY,wtL,List.length_singleton]; omega)))
 exact af (Ju hrec (n+1) F [] (n+1) (by simp [wtL])) (fun l m hl=>ai (by simp only [aY,List.length_nil]; omega))
theorem JZ (p:Nat):∀ (f:Nat) (b:Pb) (n:Nat),b.wt+1+3 * p≤3 * n→Ret (iM S rec d p f b n) fun b m=>b.wt+1+3 * p≤3 * m:=by
 intro f
 induction f with
 | zero=>intro b n _; exact bP
 | succ f ih =>
  intro b n h;unfold iM;refine ax (fun hc=>?_) (fun _=>ai h)
  refine af (dC (n+1)) (fun _ m h1=>?_)
  refine af (lM m) (fun p m2 hp=>?_)
  refine af (dC m2) (fun _ m3 h3=>?_)
  exact af (hrec .ty m3 trivial) (fun c m4 hb=>ih _ _ (by simp only [aY,wtL]; omega))
theorem Rh (n:Nat):Ret (nJ S F rec d n) fun b m=>b.wt+1+3 * n≤3 * m:=by
 unfold nJ;exact af (Cm hrec n) (fun b m hb=>JZ hrec n F b m hb)
theorem DR (n:Nat):Ret (dW S F rec d n) fun b m=>b.wt+1+3 * n≤3 * m:=by
 unfold dW;refine ax (fun h=>?_) (fun _=>ax (fun h=>?_) (fun _=>af (pU n) (fun p m hp=>ai (by simp only [aY,wtL]; omega))))
 ·refine af (wE hrec 1 (n+1)) (fun l m hl=>?_)
  exact af (dC m) (fun _ m2 h2=>ai (by simp only [aY,List.length_nil]; omega))
 ·refine af (hrec .str (n+2) trivial) (fun b m hb=>?_)
  exact af (dC m) (fun _ m2 h2=>ai (by simp only [aY,wtL,List.length_singleton]; omega))
theorem MG (p:Nat):∀ (f:Nat) (b:Pb) (n:Nat),b.wt+1+3 * p≤3 * n→Ret (jZ S rec d p f b n) fun b m=>b.wt+1+3 * p≤3 * m:=by
 intro f
 induction f with
 | zero=>intro b n _; exact bP
 | succ f ih =>
  intro b n h;unfold jZ;refine ax (fun _=>ai h) (fun hc=>?_)
  exact af (hrec .sig (n+1) trivial) (fun s m hs=>ih _ _ (by simp only [uy,aY,wtL,List.length_nil]; omega))
theorem P5 (n:Nat):Ret (nV S F rec d n) fun b m=>b.wt+1+3 * n≤3 * m:=by
 unfold nV;exact af (DR hrec n) (fun b m hb=>MG hrec n F b m hb)
theorem Dz (n:Nat):Ret (jA S rec d n) fun l m=>wtL l.2+l.2.length+3 * n≤3 * m:=by
 unfold jA;refine af (P:=fun l m=>wtL l+l.length+3 * n≤3 * m) (ax (fun _=>ai (by simp [wtL])) (fun hc=>?_)) (fun l m hl=>?_)
 ·exact af (hrec .sig (n+1) trivial) (fun s m hs=>ai (by simp only [wtL,List.length_singleton]; omega))
 ·refine af (dC m) (fun _ m2 h2=>?_)
  exact af (hrec .str m2 trivial) (fun b m3 hb=>ai (by simp only [gq,wtL,List.length_append,List.length_singleton]; omega))
theorem yG {fr n:Nat} (hs:fr+1≤n):Ret (cu S rec d fr n) fun b m=>b.wt+1+3 * fr≤3 * m:=by
 unfold cu;refine af (fU n) (fun x m hx=>?_)
 exact af (Dz hrec m) (fun l m2 hl=>ai (by simp only [uy,aY,List.length_singleton]; omega))
theorem Dx {fr n:Nat} (hs:fr+1≤n):Ret (dU S rec d fr n) fun b m=>b.wt+1+3 * fr≤3 * m:=by
 unfold dU;refine af (fU n) (fun x m hx=>?_)
 refine af (dC m) (fun _ m2 h2=>?_)
 refine af (fU m2) (fun y m3 hy=>?_)
 refine af (dC m3) (fun _ m4 h4=>?_)
 refine af (hrec .sig m4 trivial) (fun g m5 hg=>?_)
 refine af (dC m5) (fun _ m6 h6=>?_)
 exact af (Dz hrec m6) (fun l m7 hl=>ai (by simp only [uy,aY,gq,wtL,List.length_cons,List.length_nil]; omega))
theorem QK (p:Nat):∀ (f:Nat) (acc:List Pb) (n:Nat),wtL acc+acc.length+3 * p≤3 * n→Ret (pg S F rec d f acc n) fun l m=>wtL l+l.length+3 * p≤3 * m:=by
 intro f
 induction f with
 | zero=>intro acc n _; exact bP
 | succ f ih =>
  intro acc n h;unfold pg;exact ax (fun _=>af (jU hrec n) (fun b m hb=>ih _ _ (by simp only [gq,wtL,List.length_append,List.length_singleton]; omega))) (fun _=>ai h)
theorem Af (n:Nat):Ret (cO S F rec d n) fun b m=>b.wt+1+3 * n≤3 * m:=by
 unfold cO;refine af (xG n) (fun x m hx=>?_)
 refine af (jU hrec m) (fun b m2 hb=>?_)
 refine af (QK hrec m F [b] m2 (by simp [wtL]; omega)) (fun l m3 hl=>?_)
 refine af (dC m3) (fun _ m4 h4=>?_)
 exact af (hrec .exp m4 trivial) (fun e m5 he=>ai (by simp only [aY,gq,wtL,List.length_singleton]; omega))
theorem Jv {fr n:Nat} (hs:fr+1≤n) (a:Nat):Ret (iw S F rec d fr a n) fun b m=>b.wt+1+3 * fr≤3 * m:=by
 unfold iw;refine af (rP hrec a n) (fun x m hx=>?_)
 refine af (dC m) (fun _ m2 h2=>?_)
 refine af (rP hrec a m2) (fun y m3 hy=>?_)
 exact af (dC m3) (fun _ m4 h4=>ai (by simp only [aY,wtL,List.length_nil]; omega))
theorem PW (a n:Nat):Ret (nX S F rec d a n) fun b m=>b.wt+1+3 * n≤3 * m:=by
 unfold nX;refine ax (fun h=>?_) (fun q1=>ax (fun h=>?_) (fun q2=>ax (fun h=>?_) (fun q3=>ax (fun h=>?_) (fun q4=>ax (fun h=>?_) (fun q5=>ax (fun h=>?_) (fun q6=>ax (fun h=>?_) (fun q7=>ax (fun h=>?_) (fun q8=>?_))))))))
 ·refine af (hrec .pat (n+1) trivial) (fun p m hp=>?_)
  refine af (dC m) (fun _ m2 h2=>?_)
  exact af (hrec .exp m2 trivial) (fun e m3 he=>ai (by simp only [aY,wtL,List.length_nil]; omega))
 ·exact af (nG F (Af hrec) (n+1)) (fun l m hl=>ai (by simp only [aY,List.length_nil]; omega))
 ·refine af (nR (n+1)) (fun x m hx=>?_)
  refine af (dC m) (fun _ m2 h2=>?_)
  exact af (hrec .ty m2 trivial) (fun b m3 hb=>ai (by simp only [aY,wtL,List.length_singleton]; omega))
 ·exact qK hrec (by omega)
 ·exact yG hrec (by omega)
 ·refine af (fU (n+1)) (fun x m hx=>?_)
  refine af (dC m) (fun _ m2 h2=>?_)
  exact af (hrec .sig m2 trivial) (fun b m3 hb=>ai (by simp only [aY,wtL,List.length_singleton]; omega))
 ·exact Dx hrec (by omega)
 ·exact af (pU (n+1)) (fun p m hp=>ai (by simp only [aY,wtL]; omega))
 ·exact Jv hrec (by omega) a
end
theorem MV:∀ (f:Nat) (nt:Nt) (d n:Nat),S.may nt n→Ret (parts S f nt d n) fun b m=>b.wt+1+3 * n≤3 * m:=by
 intro f
 induction f with
 | zero=>intro nt d n _; exact bP
 | succ f ih =>
  intro nt d n hm;unfold parts;refine ax (fun _=>wZ) (fun _=>?_)
  have hrec:∀ nt k,S.may nt k→Ret (parts S f nt (d+1) k) fun b m=>b.wt+1+3 * k≤3 * m:=fun nt k hk=>ih nt (d+1) k hk
  cases nt with
  | exp=>exact QE hrec n
  | pat=>exact QM hrec n
  | ty=>exact UQ hrec n
  | sig=>exact Rh hrec n
  | str=>exact P5 hrec n
  | dec a=>exact PW hrec a n
theorem OJ (F:Nat):Ret (jk S F 0) fun b m=>b.wt≤3 * m+1:=by
 unfold jk;exact af (wE (F:=F) (rec:=parts S F) (d:=0) (fun nt k hk=>MV F nt 0 k hk) 2 0) (fun l m hl=>ai (by simp only [aY,List.length_nil]; omega))
end
theorem ext_list (s:ByteArray) (a e:Nat):(s.extract a e).data.toList=(s.data.toList.take e).drop a:=by
 rw [ByteArray.data_extract,Array.toList_extract,List.extract_eq_take_drop,List.drop_take]
theorem IK {s t:ByteArray} (h:s.data.toList=t.data.toList):s=t:=by
 cases s; cases t; simp only at h; congr 1; exact Array.ext' h
end Go.Proofs.YtmpmfamiegpmgaaGreatDoor
