/-
  The plain parser's branches are right, and each name in a text is one branch's, once.; How large the plain parser's branches are: a branch, all its parts and all their names are fewer than three for each token.; Pieces of texts; the first bad token by the words.
-/
import Derived.Test.YtmpmfamiegpmgaaGreatDoorFI
import Derived.Test.YtmpmfamiegpmgaaGreatDoorFJ
import Derived.Test.YtmpmfamiegpmgaaGreatDoorFS
namespace Go.Proofs.YtmpmfamiegpmgaaGreatDoor
open Go.RowKit
set_option maxRecDepth 20000
set_option linter.unusedVariables false
set_option linter.unusedSimpArgs false
def Pb.fr:Pb→Int | .mk _ _ f _ _ _=>f
def Pb.to:Pb→Int | .mk _ _ _ t _ _=>t
mutual
def Pb.cnt (x:Int):Pb→Nat
 | .mk _ _ _ _ ns ks=>ns.count x+pX x ks
def pX (x:Int):List Pb→Nat
 | []=>0
 | b :: r=>b.cnt x+pX x r
end
mutual
def Pb.Rt:Pb→Prop
 | .mk k _ f t ns ks=>0 < k∧0≤f∧f≤t∧(∀ n ∈ ns,f≤n∧n < t)∧df f t ks
def df (f t:Int):List Pb→Prop
 | []=>f≤t
 | b :: r=>b.Rt∧f≤b.fr∧df b.to t r
end
theorem o5 (x:Int) (a b:List Pb):pX x (a++b)=pX x a+pX x b:=by
 induction a with
 | nil=>simp [pX]
 | cons y r ih=>simp [pX,ih]; omega
theorem Pb.Rt.le {b:Pb} (h:b.Rt):0≤b.fr∧b.fr≤b.to:=by
 cases b; simp only [Pb.Rt] at h; exact ⟨h.2.1,h.2.2.1⟩
theorem df.le {f t:Int}:∀ {l:List Pb},df f t l→f≤t:=by
 intro l
 induction l generalizing f with
 | nil=>intro h; exact h
 | cons b r ih=>intro h; simp only [df] at h; have:=ih h.2.2; have:=h.1.le; omega
theorem df.low {f f' t:Int} (hf:f'≤f):∀ {l:List Pb},df f t l→df f' t l:=by
 intro l h
 cases l with
 | nil=>simp only [df] at h ⊢; omega
 | cons b r=>simp only [df] at h ⊢; exact ⟨h.1,by omega,h.2.2⟩
theorem df.cat {m t:Int}:∀ {f:Int} {l r:List Pb},df f m l→df m t r→df f t (l++r):=by
 intro f l
 induction l generalizing f with
 | nil=>intro r h1 h2; simp only [df] at h1; exact h2.low h1
 | cons b l ih=>intro r h1 h2; simp only [df,List.cons_append] at h1 ⊢; exact ⟨h1.1,h1.2.1,ih h1.2.2 h2⟩
theorem df.up {f t t':Int} {l:List Pb} (h:df f t l) (ht:t≤t'):df f t' l:=by
 have:=df.cat (r:=[]) h (by simpa only [df] using ht)
 simpa using this
def Src.nm (S:Src) (n:Nat):Bool:=S.kd n == 6 || S.kd n == 7 || S.kd n == 9
structure Cov (S:Src) (n m:Nat) (c:Int→Nat):Prop where
 le:n≤m
 one:∀ x,c x≤1
 inn:∀ x,0 < c x→(n:Int)≤x∧x < (m:Int)
 nm:∀ x:Nat,0 < c (x:Int)→S.nm x=true
 all:∀ x:Nat,n≤x→x < m→S.nm x=true→S.is x [42]=false→0 < c (x:Int)
abbrev iR (S:Src) (n m:Nat):Prop:=Cov S n m fun _=>0
section
variable {S:Src}
theorem Cov.ext {n m:Nat} {c d:Int→Nat} (h:Cov S n m c) (e:∀ x,d x=c x):Cov S n m d:=by
 have:d=c:=funext e
 subst this; exact h
theorem Cov.add {n m k:Nat} {c d:Int→Nat} (h:Cov S n m c) (g:Cov S m k d):Cov S n k fun x=>c x+d x where
 le:=Nat.le_trans h.le g.le
 one x:=by
  rcases Nat.eq_zero_or_pos (c x) with hc | hc
  ·have:=g.one x; omega
  ·rcases Nat.eq_zero_or_pos (d x) with hd | hd
   ·have:=h.one x; omega
   ·have:=h.inn x hc; have:=g.inn x hd; omega
 inn x hx:=by
  have h1:=h.le; have h2:=g.le
  rcases Nat.eq_zero_or_pos (c x) with hc | hc
  ·have:=g.inn x (by omega); omega
  ·have:=h.inn x hc; omega
 nm x hx:=by
  rcases Nat.eq_zero_or_pos (c x) with hc | hc
  ·exact g.nm x (by omega)
  ·exact h.nm x hc
 all x h1 h2 h3 h4:=by
  rcases Nat.lt_or_ge x m with hx | hx
  ·have:=h.all x h1 hx h3 h4; omega
  ·have:=g.all x hx h2 h3 h4; omega
theorem iR.nil (n:Nat):iR S n n:=⟨Nat.le_refl _,fun _=>by omega,fun _ h=>by omega,fun _ h=>by omega,fun x h1 h2=>by omega⟩
theorem Dj {n:Nat} (h:S.nm n=false∨S.is n [42]=true):iR S n (n+1) :=
 ⟨by omega,fun _=>by omega,fun _ h=>by omega,fun _ h=>by omega,fun x h1 h2 h3 h4=>by
  have:x=n:=by omega
  subst this
  rcases h with h | h
  ·rw [h3] at h; cases h
  ·rw [h4] at h; cases h⟩
theorem iR.cat {n m k:Nat} (h:iR S n m) (g:iR S m k):iR S n k:=(h.add g).ext fun _=>rfl
theorem Cov.skip {n m k:Nat} {c:Int→Nat} (h:Cov S n m c) (g:iR S m k):Cov S n k c:=(h.add g).ext fun _=>rfl
theorem iR.then {n m k:Nat} {c:Int→Nat} (g:iR S n m) (h:Cov S m k c):Cov S n k c:=(g.add h).ext fun x=>by simp
def cnN (l:List Nat) (x:Int):Nat:=(l.map fun y:Nat=>(y:Int)).count x
theorem zX (x:Int):cnN [] x=0:=rfl
theorem xZ (a b:List Nat) (x:Int):cnN (a++b) x=cnN a x+cnN b x:=by simp [cnN,List.count_append]
theorem yB {n:Nat} (h:S.nm n=true):Cov S n (n+1) (cnN [n]):=by
 have e:∀ x:Int,cnN [n] x=if x=n then 1 else 0:=fun x=>by
  by_cases hx:x=(n:Int)
  ·subst hx; simp [cnN]
  ·simp only [cnN,List.map_cons,List.map_nil,hx,if_false]
   rw [List.count_cons_of_ne (fun e=>hx e.symm)]; rfl
 refine ⟨by omega,fun x=>by rw [e]; split <;> omega,fun x hx=>?_,fun x hx=>?_,fun x h1 h2 h3 _=>?_⟩
 ·rw [e] at hx; split at hx <;> omega
 ·rw [e] at hx
  split at hx
  ·have:x=n:=by omega
   subst this; exact h
  ·omega
 ·have:x=n:=by omega
  subst this;rw [e,if_pos rfl]; omega
def Ret {α:Type} (o:Out α) (P:α→Nat→Prop):Prop:=∀ x m,o=.ok x m→P x m
theorem af {α β:Type} {o:Out α} {f:α→Nat→Out β} {P:α→Nat→Prop} {Q:β→Nat→Prop} (h:Ret o P) (hf:∀ x m,P x m→Ret (f x m) Q):Ret (o.bind f) Q:=by
 intro x m e
 cases o with
 | ok a n=>exact hf a n (h a n rfl) x m e
 | form n=>cases e
 | deep n=>cases e
 | dry=>cases e
theorem ai {α:Type} {x:α} {m:Nat} {P:α→Nat→Prop} (h:P x m):Ret (.ok x m) P:=by
 intro y k e
 injection e with e1 e2
 subst e1 e2; exact h
theorem jv {α:Type} {n:Nat} {P:α→Nat→Prop}:Ret (.form n:Out α) P:=fun _ _ e=>by cases e
theorem wV {α:Type} {n:Nat} {P:α→Nat→Prop}:Ret (.deep n:Out α) P:=fun _ _ e=>by cases e
theorem bQ {α:Type} {P:α→Nat→Prop}:Ret (.dry:Out α) P:=fun _ _ e=>by cases e
theorem ax {α:Type} {c:Bool} {a b:Out α} {P:α→Nat→Prop} (ha:c=true→Ret a P) (hb:c=false→Ret b P):Ret (bif c then a else b) P:=by
 cases c
 ·exact hb rfl
 ·exact ha rfl
theorem Ret.mono {α:Type} {o:Out α} {P Q:α→Nat→Prop} (h:Ret o P) (hq:∀ x m,P x m→Q x m):Ret o Q:=fun x m e=>hq x m (h x m e)
structure QB (S:Src) (n:Nat) (b:Pb) (m:Nat):Prop where
 rt:b.Rt
 lo:(n:Int)≤b.fr
 hi:b.to≤(m:Int)
 cov:Cov S n m fun x=>b.cnt x
structure QL (S:Src) (n:Nat) (l:List Pb) (m:Nat):Prop where
 ch:df n m l
 cov:Cov S n m fun x=>pX x l
structure QN (S:Src) (n:Nat) (l:List Nat) (m:Nat):Prop where
 inn:∀ x ∈ l,n≤x∧x < m
 cov:Cov S n m (cnN l)
theorem QL.nil (n:Nat):QL S n [] n:=⟨by simp [df],(iR.nil n).ext fun _=>rfl⟩
theorem QL.skip {n m k:Nat} {l:List Pb} (h:QL S n l m) (g:iR S m k):QL S n l k:=⟨h.ch.up (by have:=g.le; omega),h.cov.skip g⟩
theorem iR.ql {n m k:Nat} {l:List Pb} (g:iR S n m) (h:QL S m l k):QL S n l k:=⟨h.ch.low (by have:=g.le; omega),g.then h.cov⟩
theorem QL.cat {n m k:Nat} {l r:List Pb} (h:QL S n l m) (g:QL S m r k):QL S n (l++r) k:=⟨h.ch.cat g.ch,(h.cov.add g.cov).ext fun x=>o5 x l r⟩
theorem QB.ql {n m:Nat} {b:Pb} (h:QB S n b m):QL S n [b] m:=⟨by simp only [df]; exact ⟨h.rt,h.lo,h.hi⟩,h.cov.ext fun x=>by simp [pX]⟩
theorem QL.one {n m:Nat} {b:Pb} (h:QL S n [b] m):QB S n b m:=by
 have hc:=h.ch;simp only [df] at hc;exact ⟨hc.1,hc.2.1,hc.2.2,h.cov.ext fun x=>by simp [pX]⟩
theorem QB.skip {n m k:Nat} {b:Pb} (h:QB S n b m) (g:iR S m k):QB S n b k:=(h.ql.skip g).one
theorem iR.qb {n m k:Nat} {b:Pb} (g:iR S n m) (h:QB S m b k):QB S n b k:=(g.ql h.ql).one
theorem QN.nil (n:Nat):QN S n [] n:=⟨fun x hx=>(by cases hx),(iR.nil n).ext fun _=>rfl⟩
theorem QN.skip {n m k:Nat} {l:List Nat} (h:QN S n l m) (g:iR S m k):QN S n l k:=⟨fun x hx=>by have:=h.inn x hx; have:=g.le; omega,h.cov.skip g⟩
theorem iR.qn {n m k:Nat} {l:List Nat} (g:iR S n m) (h:QN S m l k):QN S n l k:=⟨fun x hx=>by have:=h.inn x hx; have:=g.le; omega,g.then h.cov⟩
theorem QN.cat {n m k:Nat} {l r:List Nat} (h:QN S n l m) (g:QN S m r k):QN S n (l++r) k :=
 ⟨fun x hx=>by
  have h1:=h.cov.le; have h2:=g.cov.le
  rcases List.mem_append.1 hx with hx | hx
  ·have:=h.inn x hx; omega
  ·have:=g.inn x hx; omega,(h.cov.add g.cov).ext fun x=>xZ l r x⟩
theorem nD {k:Int} {n m:Nat} {ns:List Nat} {l:List Pb} {c:Int→Nat} (hk:0 < k) (hn:∀ x ∈ ns,n≤x∧x < m) (hl:df n m l) (hc:Cov S n m c) (he:∀ x,cnN ns x+pX x l=c x):QB S n (node k n m ns l) m:=by
 refine ⟨?_,?_,?_,hc.ext fun x=>?_⟩
 ·have:=hc.le
  simp only [node,Pb.Rt];refine ⟨hk,by omega,by omega,fun x hx=>?_,hl⟩
  obtain ⟨y,hy,rfl⟩:=List.mem_map.1 hx
  have:=hn y hy; omega
 ·simp [node,Pb.fr]
 ·simp [node,Pb.to]
 ·simp only [node,Pb.cnt]; exact he x
theorem ed {k:Int} {n m:Nat} {l:List Pb} (hk:0 < k) (h:QL S n l m):QB S n (node k n m [] l) m :=
 nD hk (fun x hx=>by cases hx) h.ch h.cov (fun x=>by simp [zX])
theorem jr {k:Int} {n m:Nat} {ns:List Nat} (hk:0 < k) (h:QN S n ns m):QB S n (node k n m ns []) m :=
 nD hk h.inn (by simp only [df]; have:=h.cov.le; omega) h.cov (fun x=>by simp [pX])
theorem iW {k:Int} {n j m:Nat} {ns:List Nat} {l:List Pb} (hk:0 < k) (h:QN S n ns j) (g:QL S j l m):QB S n (node k n m ns l) m :=
 nD hk (fun x hx=>by have:=h.inn x hx; have:=g.cov.le; omega) (g.ch.low (by have:=h.cov.le; omega)) (h.cov.add g.cov) (fun x=>rfl)
theorem Hf {k:Int} {n j m:Nat} {ns:List Nat} {l:List Pb} (hk:0 < k) (g:QL S n l j) (h:QN S j ns m):QB S n (node k n m ns l) m :=
 nD hk (fun x hx=>by have:=h.inn x hx; have:=g.cov.le; omega) (g.ch.up (by have:=h.cov.le; omega)) (g.cov.add h.cov) (fun x=>Nat.add_comm _ _)
theorem Nq {k:Int} {n i j m:Nat} {ns:List Nat} {l r:List Pb} (hk:0 < k) (g:QL S n l i) (h:QN S i ns j) (g2:QL S j r m):QB S n (node k n m ns (l++r)) m:=by
 have h1:=g.cov.le; have h2:=h.cov.le; have h3:=g2.cov.le
 exact nD hk (fun x hx=>by have:=h.inn x hx; omega) ((g.ch.up (by omega)).cat (g2.ch)) ((g.cov.add h.cov).add g2.cov) (fun x=>by rw [o5]; omega)
theorem QB.marked {n m:Nat} {b:Pb} {k:Int} (h:QB S n b m):QB S n (marked k b) m:=by
 obtain ⟨h1,h2,h3,h4⟩:=h
 cases b
 exact ⟨by simpa only [Go.Proofs.YtmpmfamiegpmgaaGreatDoor.marked,Pb.Rt] using h1,h2,h3,h4.ext fun x=>by simp only [Go.Proofs.YtmpmfamiegpmgaaGreatDoor.marked,Pb.cnt]⟩
theorem wG {k:Int} {n m:Nat} {l:List Pb} (hk:0 < k) (h:QL S n l m):QB S n (fP l k n m []) m:=by
 unfold fP
 split
 ·exact h.one
 ·exact ed hk h
end
def wL (t:List UInt8):Bool:=t == [42] || !((bK t).1 == 6 || (bK t).1 == 7 || (bK t).1 == 9)
theorem OY (ask:Int→Bool) (l:List Tok):∀ t ∈ fH ask l,t ∈ l:=by
 induction l with
 | nil=>intro t h; exact h
 | cons x r ih =>
  intro t h;unfold fH at h
  cases hx:ask x.k <;> rw [hx] at h
  ·exact List.mem_cons_of_mem _ (ih t h)
  ·rcases List.mem_cons.1 h with rfl | h
   ·exact List.mem_cons_self
   ·exact List.mem_cons_of_mem _ (ih t h)
theorem U8 {S:Src} (T:S.ts=aN S.s) (n:Nat):S.kd n=(bK (S.tx n).data.toList).1:=by
 unfold Src.kd Src.tx
 cases h:S.ts[n]? with
 | none=>rfl
 | some t =>
  have hm:t ∈ sS S.s:=by
   have:t ∈ S.ts:=List.mem_of_getElem? h
   rw [T] at this;unfold aN at this;exact OY _ _ _ this
  obtain ⟨h1,h2⟩:=IJ S.s 0 (by omega) t hm
  simp only
  by_cases hlt:t.a < S.s.size
  ·have e:=mV S.s t.a hlt
   rw [← h2] at e;have hne:S.s.data.toList.drop t.a≠[]:=by rw [drop_at S.s t.a hlt]; simp
   have ha:=Jy (S.s.data.toList.drop t.a) hne;have ek:t.k=(bK (S.s.data.toList.drop t.a)).1:=congrArg Tok.k e;have ee:t.e=t.a+(bK (S.s.data.toList.drop t.a)).2:=congrArg Tok.e e;rw [ee,extract_drop,ha,ek]
  ·have:t.a=S.s.size:=by omega
   rw [this,jQ] at h2;have hk:t.k=0:=congrArg Tok.k h2;have he:t.e=S.s.size:=congrArg Tok.e h2;rw [hk,he,this]
   have:(S.s.extract S.s.size S.s.size).data.toList=[]:=by
    apply List.eq_nil_of_length_eq_zero
    simp
   rw [this]; rfl
section
variable {S:Src} (T:S.ts=aN S.s)
include T
theorem bD {t:List UInt8} (ht:wL t=true) {n:Nat} (h:S.is n t=true):iR S n (n+1):=by
 have e:(S.tx n).data.toList=t:=by unfold Src.is at h; simpa using h
 have hk:=U8 T n;rw [e] at hk;unfold wL at ht;refine Dj ?_
 rcases Bool.or_eq_true_iff.1 ht with h1 | h1
 ·right; rw [beq_iff_eq.1 h1] at h; exact h
 ·left; unfold Src.nm; rw [hk]; simpa using h1
omit T in
theorem tZ {n:Nat} {k:Int} (h:(S.kd n == k)=true) (hk:(k == 6 || k == 7 || k == 9)=false):iR S n (n+1):=by
 refine Dj (.inl ?_)
 unfold Src.nm;rw [beq_iff_eq.1 h]; exact hk
theorem dA {t:List UInt8} (ht:wL t=true) (n:Nat):Ret (S.need t n) fun _ m=>iR S n m:=by
 unfold Src.need;exact ax (fun h=>ai (bD T ht h)) (fun _=>jv)
omit T in
theorem gQ {ks:List Int} (hk:∀ k ∈ ks,(k == 6 || k == 7 || k == 9)=true) (n:Nat):Ret (S.take ks n) fun x m=>QN S n [x] m:=by
 unfold Src.take;refine ax (fun h=>ai ⟨fun x hx=>?_,yB ?_⟩) (fun _=>jv)
 ·have:x=n:=by simpa using hx
  omega
 ·exact hk _ (by simpa using h)
omit T in
theorem H9 (n:Nat):Ret (S.take [8] n) fun _ m=>iR S n m:=by
 unfold Src.take;refine ax (fun h=>ai (tZ (k:=8) ?_ rfl)) (fun _=>jv)
 simpa using h
theorem O8 {ks:List Int} (hk:∀ k ∈ ks,(k == 6 || k == 7 || k == 9)=true) (p:Nat):∀ (f:Nat) (acc:List Nat) (n:Nat),QN S p acc n→Ret (S.pathL ks f acc n) fun l m=>QN S p l m:=by
 intro f
 induction f with
 | zero=>intro acc n _; exact bQ
 | succ f ih =>
  intro acc n h;unfold Src.pathL;refine ax (fun hc=>?_) (fun _=>ai h)
  simp only [Bool.and_eq_true] at hc;have hs:=bD T (t:=[46]) (by kernel_rfl) hc.2;exact af (gQ hk (n+1)) (fun x m hx=>ih _ _ (h.cat (hs.qn hx)))
theorem qm {ks:List Int} (hk:∀ k ∈ ks,(k == 6 || k == 7 || k == 9)=true) (n:Nat):Ret (S.path ks n) fun l m=>QN S n l m:=by
 unfold Src.path;exact af (gQ hk n) (fun x m hx=>O8 T hk n _ _ _ hx)
theorem lT (n:Nat):Ret (S.typePath n) fun l m=>QN S n l m:=by
 unfold Src.typePath;exact af (qm T (by decide) n) (fun p m hp=>ax (fun _=>ai hp) (fun _=>jv))
theorem xM (n:Nat):Ret (S.value n) fun x m=>QN S n [x] m:=by
 unfold Src.value;refine ax (fun h=>?_) (fun _=>gQ (by decide) n)
 exact (gQ (by decide) (n+1)).mono fun x m hx=>(bD T (by kernel_rfl) h).qn hx
theorem QC {mark:List UInt8} (hm:wL mark=true) {read:Nat→Out Pb} (hr:∀ k,Ret (read k) fun b m=>QB S k b m) (p:Nat):∀ (f:Nat) (acc:List Pb) (n:Nat),QL S p acc n→Ret (lL S mark read f acc n) fun l m=>QL S p l m:=by
 intro f
 induction f with
 | zero=>intro acc n _; exact bQ
 | succ f ih =>
  intro acc n h;unfold lL;refine ax (fun hc=>?_) (fun _=>ai h)
  exact af (hr (n+1)) (fun b m hb=>ih _ _ (h.cat ((bD T hm hc).ql hb.ql)))
theorem nU (F:Nat) {mark:List UInt8} (hm:wL mark=true) {read:Nat→Out Pb} (hr:∀ k,Ret (read k) fun b m=>QB S k b m) (n:Nat):Ret (gK S F mark read n) fun l m=>QL S n l m:=by
 unfold gK;exact af (hr n) (fun b m hb=>QC T hm hr n F [b] m hb.ql)
theorem Cj (n:Nat) (h:((S.colon n).1 == 0)=false):iR S n (n+1):=by
 unfold Src.colon at h
 cases h1:S.is n [58]
 ·cases h2:S.is n [58,62]
  ·rw [h1,h2] at h; cases h
  ·exact bD T (by kernel_rfl) h2
 ·exact bD T (by kernel_rfl) h1
section
variable {F:Nat} {rec:Nt→Nat→Nat→Out Pb} {d:Nat} (hrec:∀ nt k,S.may nt k→Ret (rec nt d k) fun b m=>QB S k b m)
include hrec
theorem Ai (n:Nat):Ret (dF S F rec d n) fun b m=>QB S n b m:=by
 unfold dF;refine ax (fun h=>ai (ed (by decide) ((QL.nil n).skip (tZ h rfl)))) (fun _=>ax (fun h=>?_) (fun _=>?_))
 ·refine af (nU T F (by kernel_rfl) (fun k=>hrec .ty k trivial) (n+1)) (fun l m hl=>?_)
  refine af (dA T (by kernel_rfl) m) (fun _ m2 h2=>?_)
  have hl2:=(bD T (by kernel_rfl) h).ql (hl.skip h2);unfold qK
  split
  ·exact ai hl2.one
  ·exact af (lT T m2) (fun p m3 hp=>ai (Hf (by decide) hl2 hp))
 ·exact af (lT T n) (fun p m3 hp=>ai (jr (by decide) hp))
theorem Dt (n:Nat):∀ (f:Nat) (b:Pb) (m:Nat),QB S n b m→Ret (dH S n f b m) fun b m=>QB S n b m:=by
 have _:=hrec;intro f
 induction f with
 | zero=>intro b m _; exact bQ
 | succ f ih =>
  intro b m h;unfold dH;exact ax (fun _=>af (lT T m) (fun p m1 hp=>ih _ _ (Hf (by decide) h.ql hp))) (fun _=>ai h)
theorem Dp (n:Nat):Ret (dh S F rec d n) fun b m=>QB S n b m:=by
 unfold dh;exact af (Ai T hrec n) (fun b m hb=>Dt T hrec n F b m hb)
theorem Ep (n:Nat):Ret (dX S F rec d n) fun b m=>QB S n b m:=by
 unfold dX;exact af (nU T F (by kernel_rfl) (Dp T hrec) n) (fun l m hl=>ai (wG (by decide) hl))
theorem Vf (n:Nat):Ret (tyO S F rec d n) fun b m=>QB S n b m:=by
 unfold tyO;refine af (Ep T hrec n) (fun b m hb=>ax (fun h=>?_) (fun _=>ai hb))
 exact af (hrec .ty (m+1) trivial) (fun c m2 hc=>ai (ed (by decide) (hb.ql.cat ((bD T (by kernel_rfl) h).ql hc.ql))))
omit hrec in
theorem KG {fr n:Nat} (hs:iR S fr n) {member:Nat→Out Pb} (hm:∀ k,Ret (member k) fun b m=>QB S k b m):Ret (iC S F fr member n) fun b m=>QB S fr b m:=by
 unfold iC;refine ax (fun h=>ai (ed (by decide) ((QL.nil fr).skip (hs.cat (bD T (by kernel_rfl) h))))) (fun _=>?_)
 refine af (nU T F (by kernel_rfl) hm n) (fun l m hl=>?_)
 exact af (dA T (by kernel_rfl) m) (fun _ m2 h2=>ai (wG (by decide) (hs.ql (hl.skip h2))))
omit hrec in
theorem zl {named:Int} (hk:0 < named) {member:Nat→Out Pb} (hm:∀ k,Ret (member k) fun b m=>QB S k b m) (n:Nat):Ret (plainO S F named member n) fun b m=>QB S n b m:=by
 unfold plainO;refine ax (fun h=>ai (ed (by decide) ((QL.nil n).skip (tZ h rfl)))) (fun _=>ax (fun h=>ai (ed (by decide) ((QL.nil n).skip (tZ h rfl)))) (fun _=>ax (fun h=>?_) (fun _=>?_)))
 ·exact KG T (bD T (by kernel_rfl) h) hm
 ·exact af (xM T n) (fun x m hx=>ai (jr hk hx))
theorem jY (n:Nat):Ret (bT S F rec d n) fun b m=>QB S n b m:=by
 unfold bT;refine ax (fun h=>ai (ed (by decide) ((QL.nil n).skip (bD T (by kernel_rfl) h)))) (fun _=>ax (fun _=>?_) (fun _=>zl T (by decide) (fun k=>hrec .pat k trivial) n))
 exact af (qm T (by decide) n) (fun p m hp=>ai (jr (by decide) hp))
theorem QH (n:Nat):Ret (nY S F rec d n) fun b m=>QB S n b m:=by
 unfold nY;refine ax (fun h=>?_) (fun _=>ax (fun _=>?_) (fun _=>jY T hrec n))
 ·simp only [Bool.and_eq_true,beq_iff_eq] at h
  have h1:QN S n [n] (n+1):=⟨fun x hx=>by have:x=n:=(by simpa using hx); omega,yB (by unfold Src.nm; rw [h.1]; rfl)⟩;exact af (hrec .pat (n+2) trivial) (fun b m hb=>ai (iW (by decide) h1 ((bD T (by kernel_rfl) h.2).ql hb.ql)))
 ·refine af (qm T (by decide) n) (fun p m hp=>ax (fun _=>?_) (fun _=>ai (jr (by decide) hp)))
  exact af (jY T hrec m) (fun b m2 hb=>ai (iW (by decide) hp hb.ql))
theorem NG (a p:Nat):∀ (f:Nat) (acc:List Pb) (n:Nat),QL S p acc n→Ret (jE S rec d a f acc n) fun l m=>QL S p l m:=by
 intro f
 induction f with
 | zero=>intro acc n _; exact bQ
 | succ f ih =>
  intro acc n h;unfold jE;refine ax (fun hc=>ih _ _ (h.skip (bD T (by kernel_rfl) hc))) (fun _=>ax (fun hd=>?_) (fun _=>ai h))
  exact af (hrec (.dec a) n hd) (fun b m hb=>ih _ _ (h.cat hb.ql))
theorem xC (a n:Nat):Ret (gZ S F rec d a n) fun l m=>QL S n l m:=NG T hrec a n F [] n (QL.nil n)
theorem rf (a n:Nat):Ret (fB S F rec d a n) fun b m=>QB S n b m:=by
 unfold fB;exact af (xC T hrec a n) (fun l m hl=>ai (ed (by decide) hl))
theorem EF (n:Nat):Ret (iI S F rec d n) fun b m=>QB S n b m:=by
 unfold iI;refine ax (fun _=>?_) (fun _=>ax (fun h=>?_) (fun _=>zl T (by decide) (fun k=>hrec .exp k trivial) n))
 ·exact af (qm T (by decide) n) (fun p m hp=>ax (fun _=>ai (jr (by decide) hp)) (fun _=>ai (jr (by decide) hp)))
 ·refine af (rf T hrec 0 (n+1)) (fun ds m hd=>?_)
  refine af (dA T (by kernel_rfl) m) (fun _ m2 h2=>?_)
  refine af (hrec .exp m2 trivial) (fun e m3 he=>?_)
  exact af (dA T (by kernel_rfl) m3) (fun _ m4 h4=>ai (ed (by decide) (((bD T (by kernel_rfl) h).ql hd.ql).cat (h2.ql (he.ql.skip h4)))))
theorem Oy (p:Nat):∀ (f:Nat) (acc:List Pb) (n:Nat),QL S p acc n→Ret (jd S F rec d f acc n) fun l m=>QL S p l m:=by
 intro f
 induction f with
 | zero=>intro acc n _; exact bQ
 | succ f ih =>
  intro acc n h;unfold jd;exact ax (fun _=>af (EF T hrec n) (fun b m hb=>ih _ _ (h.cat hb.ql))) (fun _=>ai h)
theorem DN (n:Nat):Ret (jH S F rec d n) fun b m=>QB S n b m:=by
 unfold jH;refine af (EF T hrec n) (fun b m hb=>?_)
 exact af (Oy T hrec n F [b] m hb.ql) (fun l m2 hl=>ai (wG (by decide) hl))
def QI (S:Src) (n:Nat) (l:List Nat × List Pb) (m:Nat):Prop:=l.2.length=l.1.length+1∧df n m l.2∧(∀ x ∈ l.1,n≤x∧x < m)∧Cov S n m fun x=>cnN l.1 x+pX x l.2
theorem Kv (p:Nat):∀ (f:Nat) (sg:List Nat) (acc:List Pb) (n:Nat),QI S p (sg,acc) n→Ret (iM S F rec d f sg acc n) fun l m=>QI S p l m:=by
 intro f
 induction f with
 | zero=>intro sg acc n _; exact bQ
 | succ f ih =>
  intro sg acc n h;unfold iM;refine ax (fun _=>?_) (fun _=>ai h)
  refine af (gQ (by decide) n) (fun x m hx=>af (DN T hrec m) (fun b m2 hb=>ih _ _ _ ?_))
  obtain ⟨h1,h2,h3,h4⟩:=h;have i1:=h4.le; have i2:=hx.cov.le; have i3:=hb.cov.le
  have h1':acc.length=sg.length+1:=h1;have h3':∀ x ∈ sg,p≤x∧x < n:=h3
  refine ⟨by simp only [List.length_append,List.length_singleton]; omega,(h2.up (by omega)).cat hb.ql.ch,fun y hy=>?_,((h4.add hx.cov).add hb.cov).ext fun y=>?_⟩
  ·rcases List.mem_append.1 hy with hy | hy
   ·have:=h3' y hy; omega
   ·have:=hx.inn y hy; omega
  ·simp only [xZ,o5,pX]; omega
theorem JB (n:Nat):Ret (gG S F rec d n) fun b m=>QB S n b m:=by
 unfold gG;refine af (DN T hrec n) (fun b m hb=>?_)
 refine af (Kv T hrec n F [] [b] m ⟨rfl,hb.ql.ch,fun x hx=>(by cases hx),hb.ql.cov.ext fun x=>by simp [zX]⟩) (fun l m2 hl=>ai ?_)
 obtain ⟨sg,ks⟩:=l;obtain ⟨h1,h2,h3,h4⟩:=hl;have h1:ks.length=sg.length+1:=h1;have h2:df n m2 ks:=h2;have h4:Cov S n m2 fun x=>cnN sg x+pX x ks:=h4
 show QB S n (fP ks 37 n m2 sg) m2
 unfold fP
 split
 ·next b =>
  have h1:1=sg.length+1:=h1
  have:sg=[]:=List.length_eq_zero_iff.1 (by omega)
  subst this;exact QL.one ⟨h2,h4.ext fun x=>by simp [zX]⟩
 ·exact nD (by decide) h3 h2 h4 (fun _=>rfl)
theorem xH {k:Int} (hk:0 < k) {fr n:Nat} (hs:iR S fr n):Ret (fD S rec d k fr n) fun b m=>QB S fr b m:=by
 unfold fD;refine af (hrec .pat n trivial) (fun p m hp=>?_)
 refine af (dA T (by kernel_rfl) m) (fun _ m2 h2=>?_)
 exact af (hrec .exp m2 trivial) (fun e m3 he=>ai (ed hk ((hs.ql hp.ql).cat (h2.ql he.ql))))
theorem QD (n:Nat):Ret (yE S rec d n) fun b m=>QB S n b m:=xH T hrec (by decide) (iR.nil n)
theorem QA (n:Nat):Ret (ou S F rec d n) fun b m=>QB S n b m:=by
 unfold ou;refine ax (fun h=>?_) (fun _=>ax (fun h=>?_) (fun _=>ax (fun h=>?_) (fun _=>JB T hrec n)))
 ·refine af (hrec .exp (n+1) trivial) (fun a m ha=>?_)
  refine af (dA T (by kernel_rfl) m) (fun _ m2 h2=>?_)
  refine af (hrec .exp m2 trivial) (fun b m3 hb=>?_)
  refine af (dA T (by kernel_rfl) m3) (fun _ m4 h4=>?_)
  exact af (hrec .exp m4 trivial) (fun c m5 hc=>ai (ed (by decide) (((bD T (by kernel_rfl) h).ql ha.ql).cat ((h2.ql hb.ql).cat (h4.ql hc.ql)))))
 ·refine af (hrec .exp (n+1) trivial) (fun a m ha=>?_)
  refine af (dA T (by kernel_rfl) m) (fun _ m2 h2=>?_)
  exact af (nU T F (by kernel_rfl) (QD T hrec) m2) (fun l m3 hl=>ai (ed (by decide) (((bD T (by kernel_rfl) h).ql ha.ql).cat (h2.ql hl))))
 ·exact xH T hrec (by decide) (bD T (by kernel_rfl) h)
omit hrec in
theorem MG (p:Nat):∀ (f n:Nat),iR S p n→Ret (jy S f n) fun _ m=>iR S p m:=by
 intro f
 induction f with
 | zero=>intro n _; exact bQ
 | succ f ih =>
  intro n h;unfold jy;exact ax (fun hc=>af (H9 (n+1)) (fun _ m hm=>ih _ ((h.cat (bD T (by kernel_rfl) hc)).cat hm))) (fun _=>ai h)
omit hrec in
theorem og (n:Nat):Ret (bU S F n) fun x m=>QN S n [x] m:=by
 unfold bU;refine ax (fun h=>?_) (fun _=>ax (fun h=>?_) (fun _=>gQ (by decide) n))
 ·exact (gQ (by decide) (n+1)).mono fun x m hx=>(tZ h rfl).qn hx
 ·refine af (H9 (n+1)) (fun _ m hm=>?_)
  refine af (MG T (n+1) F m hm) (fun _ m2 h2=>?_)
  refine af (dA T (by kernel_rfl) m2) (fun _ m3 h3=>?_)
  exact (gQ (by decide) m3).mono fun x m hx=>((bD T (by kernel_rfl) h).cat (h2.cat h3)).qn hx
theorem QR (n:Nat):Ret (lZ S rec d n) fun b m=>QB S n b m:=by
 unfold lZ;refine af (gQ (by decide) n) (fun x m hx=>ax (fun h=>?_) (fun _=>ai (jr (by decide) hx)))
 exact af (hrec .ty (m+1) trivial) (fun b m2 hb=>ai (iW (by decide) hx ((bD T (by kernel_rfl) h).ql hb.ql)))
theorem Ko (n:Nat):Ret (gq S F rec d n) fun b m=>QB S n b m:=by
 unfold gq;refine af (og T n) (fun x m hx=>?_)
 refine af (dA T (by kernel_rfl) m) (fun _ m2 h2=>?_)
 exact af (nU T F (by kernel_rfl) (QR T hrec) m2) (fun l m3 hl=>ai (iW (by decide) hx (h2.ql hl)))
theorem qO {fr n:Nat} (hs:iR S fr n):Ret (bV S F rec d fr n) fun b m=>QB S fr b m:=by
 unfold bV;exact af (nU T F (by kernel_rfl) (Ko T hrec) n) (fun l m hl=>ai (ed (by decide) (hs.ql hl)))
theorem MW (n:Nat):Ret (jG S F rec d n) fun b m=>QB S n b m:=by
 unfold jG;refine ax (fun h=>?_) (fun _=>ax (fun h=>?_) (fun _=>ax (fun h=>?_) (fun _=>ax (fun h=>?_) (fun _=>?_))))
 ·refine af (xM T (n+1)) (fun x m hx=>?_)
  refine af (dA T (by kernel_rfl) m) (fun _ m2 h2=>?_)
  exact af (hrec .ty m2 trivial) (fun b m3 hb=>ai (iW (by decide) ((bD T (by kernel_rfl) h).qn hx) (h2.ql hb.ql)))
 ·refine af (og T (n+1)) (fun x m hx=>ax (fun h2=>?_) (fun _=>ai (jr (by decide) ((bD T (by kernel_rfl) h).qn hx))))
  exact af (hrec .ty (m+1) trivial) (fun b m3 hb=>ai (iW (by decide) ((bD T (by kernel_rfl) h).qn hx) ((bD T (by kernel_rfl) h2).ql hb.ql)))
 ·exact qO T hrec (bD T (by kernel_rfl) h)
 ·refine af (gQ (by decide) (n+1)) (fun x m hx=>?_)
  refine af (dA T (by kernel_rfl) m) (fun _ m2 h2=>?_)
  exact af (hrec .sig m2 trivial) (fun b m3 hb=>ai (iW (by decide) ((bD T (by kernel_rfl) h).qn hx) (h2.ql hb.ql)))
 ·refine af (dA T (by kernel_rfl) n) (fun _ m2 h2=>?_)
  exact af (hrec .sig m2 trivial) (fun b m3 hb=>ai (ed (by decide) (h2.ql hb.ql)))
theorem JV (p:Nat):∀ (f:Nat) (acc:List Pb) (n:Nat),QL S p acc n→Ret (iF S F rec d f acc n) fun l m=>QL S p l m:=by
 intro f
 induction f with
 | zero=>intro acc n _; exact bQ
 | succ f ih =>
  intro acc n h;unfold iF;refine ax (fun hc=>ai (h.skip (bD T (by kernel_rfl) hc))) (fun _=>ax (fun hc=>ih _ _ (h.skip (bD T (by kernel_rfl) hc))) (fun _=>?_))
  exact af (MW T hrec n) (fun b m hb=>ih _ _ (h.cat hb.ql))
theorem DC (n:Nat):Ret (dU S F rec d n) fun b m=>QB S n b m:=by
 unfold dU;refine ax (fun h=>?_) (fun _=>af (gQ (by decide) n) (fun x m hx=>ai (jr (by decide) hx)))
 exact af (JV T hrec (n+1) F [] (n+1) (QL.nil _)) (fun l m hl=>ai (ed (by decide) ((bD T (by kernel_rfl) h).ql hl)))
theorem Ja (p:Nat):∀ (f:Nat) (b:Pb) (n:Nat),QB S p b n→Ret (iK S rec d p f b n) fun b m=>QB S p b m:=by
 intro f
 induction f with
 | zero=>intro b n _; exact bQ
 | succ f ih =>
  intro b n h;unfold iK;refine ax (fun hc=>?_) (fun _=>ai h)
  refine af (dA T (by kernel_rfl) (n+1)) (fun _ m h1=>?_)
  refine af (lT T m) (fun p m2 hp=>?_)
  refine af (dA T (by kernel_rfl) m2) (fun _ m3 h3=>?_)
  exact af (hrec .ty m3 trivial) (fun c m4 hb=>ih _ _ (Nq (l:=[b]) (r:=[c]) (by decide) (h.ql.skip ((bD T (by kernel_rfl) hc).cat h1)) hp (h3.ql hb.ql)))
theorem Q4 (n:Nat):Ret (oh S F rec d n) fun b m=>QB S n b m:=by
 unfold oh;exact af (DC T hrec n) (fun b m hb=>Ja T hrec n F b m hb)
theorem Du (n:Nat):Ret (dV S F rec d n) fun b m=>QB S n b m:=by
 unfold dV;refine ax (fun h=>?_) (fun _=>ax (fun h=>?_) (fun _=>af (qm T (by decide) n) (fun p m hp=>ai (jr (by decide) hp))))
 ·refine af (xC T hrec 1 (n+1)) (fun l m hl=>?_)
  exact af (dA T (by kernel_rfl) m) (fun _ m2 h2=>ai (ed (by decide) ((bD T (by kernel_rfl) h).ql (hl.skip h2))))
 ·simp only [Bool.and_eq_true,beq_iff_eq] at h
  have h1:QN S n [n] (n+1):=⟨fun x hx=>by have:x=n:=(by simpa using hx); omega,yB (by unfold Src.nm; rw [h.1]; rfl)⟩;refine af (hrec .str (n+2) trivial) (fun b m hb=>?_)
  exact af (dA T (by kernel_rfl) m) (fun _ m2 h2=>ai (iW (by decide) h1 ((bD T (by kernel_rfl) h.2).ql (hb.ql.skip h2))))
theorem Oc (p:Nat):∀ (f:Nat) (b:Pb) (n:Nat),QB S p b n→Ret (kH S rec d p f b n) fun b m=>QB S p b m:=by
 intro f
 induction f with
 | zero=>intro b n _; exact bQ
 | succ f ih =>
  intro b n h;unfold kH;refine ax (fun _=>ai h) (fun hc=>?_)
  exact af (hrec .sig (n+1) trivial) (fun s m hs=>ih _ _ (QB.marked (ed (by decide) (h.ql.cat ((Cj T n hc).ql hs.ql)))))
theorem Qq (n:Nat):Ret (nO S F rec d n) fun b m=>QB S n b m:=by
 unfold nO;exact af (Du T hrec n) (fun b m hb=>Oc T hrec n F b m hb)
theorem Ew (n:Nat):Ret (jw S rec d n) fun l m=>QL S n l.2 m:=by
 unfold jw;refine af (P:=fun l m=>QL S n l m) (ax (fun _=>ai (QL.nil n)) (fun hc=>?_)) (fun l m hl=>?_)
 ·exact af (hrec .sig (n+1) trivial) (fun s m hs=>ai ((Cj T n hc).ql hs.ql))
 ·refine af (dA T (by kernel_rfl) m) (fun _ m2 h2=>?_)
  exact af (hrec .str m2 trivial) (fun b m3 hb=>ai (hl.cat (h2.ql hb.ql)))
theorem yH {fr n:Nat} (hs:iR S fr n):Ret (cO S rec d fr n) fun b m=>QB S fr b m:=by
 unfold cO;refine af (gQ (by decide) n) (fun x m hx=>?_)
 exact af (Ew T hrec m) (fun l m2 hl=>ai (QB.marked (iW (by decide) (hs.qn hx) hl)))
theorem BZ {fr n:Nat} (hs:iR S fr n):Ret (dS S rec d fr n) fun b m=>QB S fr b m:=by
 unfold dS;refine af (gQ (by decide) n) (fun x m hx=>?_)
 refine af (dA T (by kernel_rfl) m) (fun _ m2 h2=>?_)
 refine af (gQ (by decide) m2) (fun y m3 hy=>?_)
 refine af (dA T (by kernel_rfl) m3) (fun _ m4 h4=>?_)
 refine af (hrec .sig m4 trivial) (fun g m5 hg=>?_)
 refine af (dA T (by kernel_rfl) m5) (fun _ m6 h6=>?_)
 exact af (Ew T hrec m6) (fun l m7 hl=>ai (QB.marked (iW (ns:=[x]++[y]) (by decide) (hs.qn (hx.cat (h2.qn hy))) (h4.ql (hg.ql.cat (h6.ql hl))))))
theorem Rl (p:Nat):∀ (f:Nat) (acc:List Pb) (n:Nat),QL S p acc n→Ret (pI S F rec d f acc n) fun l m=>QL S p l m:=by
 intro f
 induction f with
 | zero=>intro acc n _; exact bQ
 | succ f ih =>
  intro acc n h;unfold pI;exact ax (fun _=>af (jY T hrec n) (fun b m hb=>ih _ _ (h.cat hb.ql))) (fun _=>ai h)
theorem zW (n:Nat):Ret (cZ S F rec d n) fun b m=>QB S n b m:=by
 unfold cZ;refine af (xM T n) (fun x m hx=>?_)
 refine af (jY T hrec m) (fun b m2 hb=>?_)
 refine af (Rl T hrec m F [b] m2 hb.ql) (fun l m3 hl=>?_)
 refine af (dA T (by kernel_rfl) m3) (fun _ m4 h4=>?_)
 exact af (hrec .exp m4 trivial) (fun e m5 he=>ai (iW (by decide) hx (hl.cat (h4.ql he.ql))))
theorem JP {fr n:Nat} (hs:iR S fr n) (a:Nat):Ret (iE S F rec d fr a n) fun b m=>QB S fr b m:=by
 unfold iE;refine af (rf T hrec a n) (fun x m hx=>?_)
 refine af (dA T (by kernel_rfl) m) (fun _ m2 h2=>?_)
 refine af (rf T hrec a m2) (fun y m3 hy=>?_)
 exact af (dA T (by kernel_rfl) m3) (fun _ m4 h4=>ai (ed (by decide) ((hs.ql hx.ql).cat (h2.ql (hy.ql.skip h4)))))
theorem QZ (a n:Nat) (hl:declares S a n=true):Ret (nS S F rec d a n) fun b m=>QB S n b m:=by
 unfold nS;refine ax (fun h=>?_) (fun q1=>ax (fun h=>?_) (fun q2=>ax (fun h=>?_) (fun q3=>ax (fun h=>?_) (fun q4=>ax (fun h=>?_) (fun q5=>ax (fun h=>?_) (fun q6=>ax (fun h=>?_) (fun q7=>ax (fun h=>?_) (fun q8=>?_))))))))
 ·refine af (hrec .pat (n+1) trivial) (fun p m hp=>?_)
  refine af (dA T (by kernel_rfl) m) (fun _ m2 h2=>?_)
  exact af (hrec .exp m2 trivial) (fun e m3 he=>ai (ed (by decide) (((bD T (by kernel_rfl) h).ql hp.ql).cat (h2.ql he.ql))))
 ·exact af (nU T F (by kernel_rfl) (zW T hrec) (n+1)) (fun l m hl=>ai (ed (by decide) ((bD T (by kernel_rfl) h).ql hl)))
 ·refine af (og T (n+1)) (fun x m hx=>?_)
  refine af (dA T (by kernel_rfl) m) (fun _ m2 h2=>?_)
  exact af (hrec .ty m2 trivial) (fun b m3 hb=>ai (iW (by decide) ((bD T (by kernel_rfl) h).qn hx) (h2.ql hb.ql)))
 ·exact qO T hrec (bD T (by kernel_rfl) h)
 ·exact yH T hrec (bD T (by kernel_rfl) h)
 ·refine af (gQ (by decide) (n+1)) (fun x m hx=>?_)
  refine af (dA T (by kernel_rfl) m) (fun _ m2 h2=>?_)
  exact af (hrec .sig m2 trivial) (fun b m3 hb=>ai (iW (by decide) ((bD T (by kernel_rfl) h).qn hx) (h2.ql hb.ql)))
 ·exact BZ T hrec (bD T (by kernel_rfl) h)
 ·exact af (qm T (by decide) (n+1)) (fun p m hp=>ai (jr (by decide) ((bD T (by kernel_rfl) h).qn hp)))
 ·refine JP T hrec (bD T (t:=[108,111,99,97,108]) (by kernel_rfl) ?_) a
  unfold declares at hl;simp only [q1,q2,q3,q4,q5,q6,q7,q8,Bool.or_self,Bool.false_or,cond_false] at hl;exact hl
end
theorem Ob:∀ (f:Nat) (nt:Nt) (d n:Nat),S.may nt n→Ret (parts S f nt d n) fun b m=>QB S n b m:=by
 intro f
 induction f with
 | zero=>intro nt d n _; exact bQ
 | succ f ih =>
  intro nt d n hm;unfold parts;refine ax (fun _=>wV) (fun _=>?_)
  have hrec:∀ nt k,S.may nt k→Ret (parts S f nt (d+1) k) fun b m=>QB S k b m:=fun nt k hk=>ih nt (d+1) k hk
  cases nt with
  | exp=>exact QA T hrec n
  | pat=>exact QH T hrec n
  | ty=>exact Vf T hrec n
  | sig=>exact Q4 T hrec n
  | str=>exact Qq T hrec n
  | dec a=>exact QZ T hrec a n hm
theorem OQ (F:Nat):Ret (jo S F 0) fun b m=>QB S 0 b m:=by
 unfold jo;exact af (xC T (F:=F) (rec:=parts S F) (d:=0) (fun nt k hk=>Ob T F nt 0 k hk) 2 0) (fun l m hl=>ai (ed (by decide) hl))
end
mutual
def Pb.wt:Pb→Nat
 | .mk _ _ _ _ ns ks=>1+ns.length+wtL ks
def wtL:List Pb→Nat
 | []=>0
 | b :: r=>b.wt+wtL r
end
theorem gB (a b:List Pb):wtL (a++b)=wtL a+wtL b:=by
 induction a with
 | nil=>simp [wtL]
 | cons y r ih=>simp [wtL,ih]; omega
theorem aY (k:Int) (f t:Nat) (ns:List Nat) (l:List Pb):(node k f t ns l).wt=1+ns.length+wtL l:=by
 simp [node,Pb.wt]
theorem uz (m:Int) (b:Pb):(marked m b).wt=b.wt:=by
 cases b; simp [marked,Pb.wt]
theorem sH {l:List Pb} {k:Int} {f t:Nat} {ns:List Nat} {n m:Nat} (h:wtL l+l.length+ns.length+3 * n≤3 * m) (h1:1≤l.length):(fP l k f t ns).wt+1+3 * n≤3 * m:=by
 unfold fP
 split
 ·simp [wtL] at h; omega
 ·next hne =>
  rw [aY]
  match l,hne,h1 with
  | a :: b :: r,_,_=>simp only [List.length_cons] at h ⊢; omega
  | [a],hne,_=>exact absurd rfl (hne a)
section
variable {S:Src}
theorem dD {t:List UInt8} (n:Nat):Ret (S.need t n) fun _ m=>m=n+1:=by
 unfold Src.need;exact ax (fun h=>ai rfl) (fun _=>jv)
theorem gm {ks:List Int} (n:Nat):Ret (S.take ks n) fun x m=>m=n+1:=by
 unfold Src.take;exact ax (fun h=>ai rfl) (fun _=>jv)
theorem OE {ks:List Int} (p:Nat):∀ (f:Nat) (acc:List Nat) (n:Nat),1≤acc.length→acc.length+p≤n→Ret (S.pathL ks f acc n) fun l m=>1≤l.length∧l.length+p≤m:=by
 intro f
 induction f with
 | zero=>intro acc n _ _; exact bQ
 | succ f ih =>
  intro acc n h0 h;unfold Src.pathL;refine ax (fun hc=>?_) (fun _=>ai ⟨h0,h⟩)
  exact af (gm (n+1)) (fun x m hx=>ih _ _ (by simp) (by simp; omega))
theorem qw {ks:List Int} (n:Nat):Ret (S.path ks n) fun l m=>1≤l.length∧l.length+n≤m:=by
 unfold Src.path;exact af (gm n) (fun x m hx=>OE n _ _ _ (by simp) (by simp; omega))
theorem lV (n:Nat):Ret (S.typePath n) fun l m=>1≤l.length∧l.length+n≤m:=by
 unfold Src.typePath;exact af (qw n) (fun p m hp=>ax (fun _=>ai hp) (fun _=>jv))
theorem yx (n:Nat):Ret (S.value n) fun x m=>n+1≤m:=by
 unfold Src.value;refine ax (fun h=>?_) (fun _=>(gm n).mono fun x m hx=>by omega)
 exact (gm (n+1)).mono fun x m hx=>by omega
theorem Qs {mark:List UInt8} {read:Nat→Out Pb} (hr:∀ k,Ret (read k) fun b m=>b.wt+1+3 * k≤3 * m) (p:Nat):∀ (f:Nat) (acc:List Pb) (n:Nat),1≤acc.length→wtL acc+acc.length+3 * p≤3 * n→Ret (lL S mark read f acc n) fun l m=>1≤l.length∧wtL l+l.length+3 * p≤3 * m:=by
 intro f
 induction f with
 | zero=>intro acc n _ _; exact bQ
 | succ f ih =>
  intro acc n h0 h;unfold lL;refine ax (fun hc=>?_) (fun _=>ai ⟨h0,h⟩)
  exact af (hr (n+1)) (fun b m hb=>ih _ _ (by simp) (by simp only [gB,wtL,List.length_append,List.length_singleton]; omega))
theorem nZ (F:Nat) {mark:List UInt8} {read:Nat→Out Pb} (hr:∀ k,Ret (read k) fun b m=>b.wt+1+3 * k≤3 * m) (n:Nat):Ret (gK S F mark read n) fun l m=>1≤l.length∧wtL l+l.length+3 * n≤3 * m:=by
 unfold gK;exact af (hr n) (fun b m hb=>Qs hr n F [b] m (by simp) (by simp [wtL]; omega))
section
variable {F:Nat} {rec:Nt→Nat→Nat→Out Pb} {d:Nat} (hrec:∀ nt k,S.may nt k→Ret (rec nt d k) fun b m=>b.wt+1+3 * k≤3 * m)
include hrec
theorem zV (n:Nat):Ret (dF S F rec d n) fun b m=>b.wt+1+3 * n≤3 * m:=by
 unfold dF;refine ax (fun h=>ai (by simp [aY,wtL]; omega)) (fun _=>ax (fun h=>?_) (fun _=>?_))
 ·refine af (nZ F (fun k=>hrec .ty k trivial) (n+1)) (fun l m hl=>?_)
  refine af (dD m) (fun _ m2 h2=>?_)
  unfold qK
  split
  ·exact ai (by simp only [wtL,List.length_singleton] at hl; omega)
  ·exact af (lV m2) (fun p m3 hp=>ai (by rw [aY]; omega))
 ·exact af (lV n) (fun p m3 hp=>ai (by simp only [aY,wtL]; omega))
theorem Dl (n:Nat):∀ (f:Nat) (b:Pb) (m:Nat),b.wt+1+3 * n≤3 * m→Ret (dH S n f b m) fun b m=>b.wt+1+3 * n≤3 * m:=by
 have _:=hrec;intro f
 induction f with
 | zero=>intro b m _; exact bQ
 | succ f ih =>
  intro b m h;unfold dH;exact ax (fun _=>af (lV m) (fun p m1 hp=>ih _ _ (by simp only [aY,wtL]; omega))) (fun _=>ai h)
theorem Es (n:Nat):Ret (dh S F rec d n) fun b m=>b.wt+1+3 * n≤3 * m:=by
 unfold dh;exact af (zV hrec n) (fun b m hb=>Dl hrec n F b m hb)
theorem DI (n:Nat):Ret (dX S F rec d n) fun b m=>b.wt+1+3 * n≤3 * m:=by
 unfold dX;exact af (nZ F (Es hrec) n) (fun l m hl=>ai (sH (by simpa using hl.2) hl.1))
theorem Vm (n:Nat):Ret (tyO S F rec d n) fun b m=>b.wt+1+3 * n≤3 * m:=by
 unfold tyO;refine af (DI hrec n) (fun b m hb=>ax (fun h=>?_) (fun _=>ai hb))
 exact af (hrec .ty (m+1) trivial) (fun c m2 hc=>ai (by simp only [aY,wtL,List.length_nil]; omega))
omit hrec in
theorem Kr {fr n:Nat} (hs:fr+1≤n) {member:Nat→Out Pb} (hm:∀ k,Ret (member k) fun b m=>b.wt+1+3 * k≤3 * m):Ret (iC S F fr member n) fun b m=>b.wt+1+3 * fr≤3 * m:=by
 unfold iC;refine ax (fun h=>ai (by simp only [aY,wtL,List.length_nil]; omega)) (fun _=>?_)
 refine af (nZ F hm n) (fun l m hl=>?_)
 exact af (dD m) (fun _ m2 h2=>ai (sH (by simp only [List.length_nil]; omega) hl.1))
omit hrec in
theorem zy {named:Int} {member:Nat→Out Pb} (hm:∀ k,Ret (member k) fun b m=>b.wt+1+3 * k≤3 * m) (n:Nat):Ret (plainO S F named member n) fun b m=>b.wt+1+3 * n≤3 * m:=by
 unfold plainO;refine ax (fun h=>ai (by simp only [aY,wtL,List.length_nil]; omega)) (fun _=>ax (fun h=>ai (by simp only [aY,wtL,List.length_nil]; omega)) (fun _=>ax (fun h=>?_) (fun _=>?_)))
 ·exact Kr (by omega) hm
 ·exact af (yx n) (fun x m hx=>ai (by simp only [aY,wtL,List.length_singleton]; omega))
theorem jX (n:Nat):Ret (bT S F rec d n) fun b m=>b.wt+1+3 * n≤3 * m:=by
 unfold bT;refine ax (fun h=>ai (by simp only [aY,wtL,List.length_nil]; omega)) (fun _=>ax (fun _=>?_) (fun _=>zy (fun k=>hrec .pat k trivial) n))
 exact af (qw n) (fun p m hp=>ai (by simp only [aY,wtL]; omega))
theorem QT (n:Nat):Ret (nY S F rec d n) fun b m=>b.wt+1+3 * n≤3 * m:=by
 unfold nY;refine ax (fun h=>?_) (fun _=>ax (fun _=>?_) (fun _=>jX hrec n))
 ·exact af (hrec .pat (n+2) trivial) (fun b m hb=>ai (by simp only [aY,wtL,List.length_singleton]; omega))
 ·refine af (qw n) (fun p m hp=>ax (fun _=>?_) (fun _=>ai (by simp only [aY,wtL]; omega)))
  exact af (jX hrec m) (fun b m2 hb=>ai (by simp only [aY,wtL]; omega))
theorem OI (a p:Nat):∀ (f:Nat) (acc:List Pb) (n:Nat),wtL acc+acc.length+3 * p≤3 * n→Ret (jE S rec d a f acc n) fun l m=>wtL l+l.length+3 * p≤3 * m:=by
 intro f
 induction f with
 | zero=>intro acc n _; exact bQ
 | succ f ih =>
  intro acc n h;unfold jE;refine ax (fun hc=>ih _ _ (by omega)) (fun _=>ax (fun hd=>?_) (fun _=>ai h))
  exact af (hrec (.dec a) n hd) (fun b m hb=>ih _ _ (by simp only [gB,wtL,List.length_append,List.length_singleton]; omega))
theorem ww (a n:Nat):Ret (gZ S F rec d a n) fun l m=>wtL l+l.length+3 * n≤3 * m:=OI hrec a n F [] n (by simp [wtL])
theorem qX (a n:Nat):Ret (fB S F rec d a n) fun b m=>b.wt+3 * n≤3 * m+1:=by
 unfold fB;exact af (ww hrec a n) (fun l m hl=>ai (by simp only [aY,List.length_nil]; omega))
theorem EG (n:Nat):Ret (iI S F rec d n) fun b m=>b.wt+1+3 * n≤3 * m:=by
 unfold iI;refine ax (fun _=>?_) (fun _=>ax (fun h=>?_) (fun _=>zy (fun k=>hrec .exp k trivial) n))
 ·exact af (qw n) (fun p m hp=>ax (fun _=>ai (by simp only [aY,wtL]; omega)) (fun _=>ai (by simp only [aY,wtL]; omega)))
 ·refine af (qX hrec 0 (n+1)) (fun ds m hd=>?_)
  refine af (dD m) (fun _ m2 h2=>?_)
  refine af (hrec .exp m2 trivial) (fun e m3 he=>?_)
  exact af (dD m3) (fun _ m4 h4=>ai (by simp only [aY,wtL,List.length_nil]; omega))
theorem MK (p:Nat):∀ (f:Nat) (acc:List Pb) (n:Nat),1≤acc.length→wtL acc+acc.length+3 * p≤3 * n→Ret (jd S F rec d f acc n) fun l m=>1≤l.length∧wtL l+l.length+3 * p≤3 * m:=by
 intro f
 induction f with
 | zero=>intro acc n _ _; exact bQ
 | succ f ih =>
  intro acc n h0 h;unfold jd;exact ax (fun _=>af (EG hrec n) (fun b m hb=>ih _ _ (by simp) (by simp only [gB,wtL,List.length_append,List.length_singleton]; omega))) (fun _=>ai ⟨h0,h⟩)
theorem C9 (n:Nat):Ret (jH S F rec d n) fun b m=>b.wt+1+3 * n≤3 * m:=by
 unfold jH;refine af (EG hrec n) (fun b m hb=>?_)
 exact af (MK hrec n F [b] m (by simp) (by simp [wtL]; omega)) (fun l m2 hl=>ai (sH (by simpa using hl.2) hl.1))
theorem JJ (p:Nat):∀ (f:Nat) (sg:List Nat) (acc:List Pb) (n:Nat),1≤acc.length→wtL acc+acc.length+sg.length+3 * p≤3 * n→Ret (iM S F rec d f sg acc n) fun l m=>1≤l.2.length∧wtL l.2+l.2.length+l.1.length+3 * p≤3 * m:=by
 intro f
 induction f with
 | zero=>intro sg acc n _ _; exact bQ
 | succ f ih =>
  intro sg acc n h0 h;unfold iM;refine ax (fun _=>?_) (fun _=>ai ⟨h0,h⟩)
  exact af (gm n) (fun x m hx=>af (C9 hrec m) (fun b m2 hb=>ih _ _ _ (by simp) (by simp only [gB,wtL,List.length_append,List.length_singleton]; omega)))
theorem IE (n:Nat):Ret (gG S F rec d n) fun b m=>b.wt+1+3 * n≤3 * m:=by
 unfold gG;refine af (C9 hrec n) (fun b m hb=>?_)
 exact af (JJ hrec n F [] [b] m (by simp) (by simp [wtL]; omega)) (fun l m2 hl=>ai (sH hl.2 hl.1))
theorem wW {k:Int} {fr n:Nat} (hs:fr≤n):Ret (fD S rec d k fr n) fun b m=>b.wt+1+3 * fr≤3 * m:=by
 unfold fD;refine af (hrec .pat n trivial) (fun p m hp=>?_)
 refine af (dD m) (fun _ m2 h2=>?_)
 exact af (hrec .exp m2 trivial) (fun e m3 he=>ai (by simp only [aY,wtL,List.length_nil]; omega))
theorem Qd (n:Nat):Ret (yE S rec d n) fun b m=>b.wt+1+3 * n≤3 * m:=wW hrec (Nat.le_refl _)
theorem Rz (n:Nat):Ret (ou S F rec d n) fun b m=>b.wt+1+3 * n≤3 * m:=by
 unfold ou;refine ax (fun h=>?_) (fun _=>ax (fun h=>?_) (fun _=>ax (fun h=>?_) (fun _=>IE hrec n)))
 ·refine af (hrec .exp (n+1) trivial) (fun a m ha=>?_)
  refine af (dD m) (fun _ m2 h2=>?_)
  refine af (hrec .exp m2 trivial) (fun b m3 hb=>?_)
  refine af (dD m3) (fun _ m4 h4=>?_)
  exact af (hrec .exp m4 trivial) (fun c m5 hc=>ai (by simp only [aY,wtL,List.length_nil]; omega))
 ·refine af (hrec .exp (n+1) trivial) (fun a m ha=>?_)
  refine af (dD m) (fun _ m2 h2=>?_)
  exact af (nZ F (Qd hrec) m2) (fun l m3 hl=>ai (by simp only [aY,gB,wtL,List.length_nil]; omega))
 ·exact wW hrec (by omega)
omit hrec in
theorem NP:∀ (f n:Nat),Ret (jy S f n) fun _ m=>n≤m:=by
 intro f
 induction f with
 | zero=>intro n; exact bQ
 | succ f ih =>
  intro n;unfold jy;exact ax (fun hc=>af (gm (n+1)) (fun _ m hm=>(ih m).mono fun _ m2 h=>by omega)) (fun _=>ai (Nat.le_refl _))
omit hrec in
theorem oI (n:Nat):Ret (bU S F n) fun x m=>n+1≤m:=by
 unfold bU;refine ax (fun h=>?_) (fun _=>ax (fun h=>?_) (fun _=>(gm n).mono fun x m hx=>by omega))
 ·exact (gm (n+1)).mono fun x m hx=>by omega
 ·refine af (gm (n+1)) (fun _ m hm=>?_)
  refine af (NP F m) (fun _ m2 h2=>?_)
  refine af (dD m2) (fun _ m3 h3=>?_)
  exact (gm m3).mono fun x m hx=>by omega
theorem Rk (n:Nat):Ret (lZ S rec d n) fun b m=>b.wt+1+3 * n≤3 * m:=by
 unfold lZ;refine af (gm n) (fun x m hx=>ax (fun h=>?_) (fun _=>ai (by simp only [aY,wtL,List.length_singleton]; omega)))
 exact af (hrec .ty (m+1) trivial) (fun b m2 hb=>ai (by simp only [aY,wtL,List.length_singleton]; omega))
theorem Jw (n:Nat):Ret (gq S F rec d n) fun b m=>b.wt+1+3 * n≤3 * m:=by
 unfold gq;refine af (oI n) (fun x m hx=>?_)
 refine af (dD m) (fun _ m2 h2=>?_)
 exact af (nZ F (Rk hrec) m2) (fun l m3 hl=>ai (by simp only [aY,List.length_singleton]; omega))
theorem qJ {fr n:Nat} (hs:fr+1≤n):Ret (bV S F rec d fr n) fun b m=>b.wt+1+3 * fr≤3 * m:=by
 unfold bV;exact af (nZ F (Jw hrec) n) (fun l m hl=>ai (by simp only [aY,List.length_nil]; omega))
theorem Me (n:Nat):Ret (jG S F rec d n) fun b m=>b.wt+1+3 * n≤3 * m:=by
 unfold jG;refine ax (fun h=>?_) (fun _=>ax (fun h=>?_) (fun _=>ax (fun h=>?_) (fun _=>ax (fun h=>?_) (fun _=>?_))))
 ·refine af (yx (n+1)) (fun x m hx=>?_)
  refine af (dD m) (fun _ m2 h2=>?_)
  exact af (hrec .ty m2 trivial) (fun b m3 hb=>ai (by simp only [aY,wtL,List.length_singleton]; omega))
 ·refine af (oI (n+1)) (fun x m hx=>ax (fun h2=>?_) (fun _=>ai (by simp only [aY,wtL,List.length_singleton]; omega)))
  exact af (hrec .ty (m+1) trivial) (fun b m3 hb=>ai (by simp only [aY,wtL,List.length_singleton]; omega))
 ·exact qJ hrec (by omega)
 ·refine af (gm (n+1)) (fun x m hx=>?_)
  refine af (dD m) (fun _ m2 h2=>?_)
  exact af (hrec .sig m2 trivial) (fun b m3 hb=>ai (by simp only [aY,wtL,List.length_singleton]; omega))
 ·refine af (dD n) (fun _ m2 h2=>?_)
  exact af (hrec .sig m2 trivial) (fun b m3 hb=>ai (by simp only [aY,wtL,List.length_nil]; omega))
theorem IA (p:Nat):∀ (f:Nat) (acc:List Pb) (n:Nat),wtL acc+acc.length+3 * p≤3 * n→Ret (iF S F rec d f acc n) fun l m=>wtL l+l.length+3 * p≤3 * m:=by
 intro f
 induction f with
 | zero=>intro acc n _; exact bQ
 | succ f ih =>
  intro acc n h;unfold iF;refine ax (fun hc=>ai (by omega)) (fun _=>ax (fun hc=>ih _ _ (by omega)) (fun _=>?_))
  exact af (Me hrec n) (fun b m hb=>ih _ _ (by simp only [gB,wtL,List.length_append,List.length_singleton]; omega))
theorem Ee (n:Nat):Ret (dU S F rec d n) fun b m=>b.wt+1+3 * n≤3 * m:=by
 unfold dU;refine ax (fun h=>?_) (fun _=>af (gm n) (fun x m hx=>ai (by simp only [aY,wtL,List.length_singleton]; omega)))
 exact af (IA hrec (n+1) F [] (n+1) (by simp [wtL])) (fun l m hl=>ai (by simp only [aY,List.length_nil]; omega))
theorem JK (p:Nat):∀ (f:Nat) (b:Pb) (n:Nat),b.wt+1+3 * p≤3 * n→Ret (iK S rec d p f b n) fun b m=>b.wt+1+3 * p≤3 * m:=by
 intro f
 induction f with
 | zero=>intro b n _; exact bQ
 | succ f ih =>
  intro b n h;unfold iK;refine ax (fun hc=>?_) (fun _=>ai h)
  refine af (dD (n+1)) (fun _ m h1=>?_)
  refine af (lV m) (fun p m2 hp=>?_)
  refine af (dD m2) (fun _ m3 h3=>?_)
  exact af (hrec .ty m3 trivial) (fun c m4 hb=>ih _ _ (by simp only [aY,wtL]; omega))
theorem Qa (n:Nat):Ret (oh S F rec d n) fun b m=>b.wt+1+3 * n≤3 * m:=by
 unfold oh;exact af (Ee hrec n) (fun b m hb=>JK hrec n F b m hb)
theorem BU (n:Nat):Ret (dV S F rec d n) fun b m=>b.wt+1+3 * n≤3 * m:=by
 unfold dV;refine ax (fun h=>?_) (fun _=>ax (fun h=>?_) (fun _=>af (qw n) (fun p m hp=>ai (by simp only [aY,wtL]; omega))))
 ·refine af (ww hrec 1 (n+1)) (fun l m hl=>?_)
  exact af (dD m) (fun _ m2 h2=>ai (by simp only [aY,List.length_nil]; omega))
 ·refine af (hrec .str (n+2) trivial) (fun b m hb=>?_)
  exact af (dD m) (fun _ m2 h2=>ai (by simp only [aY,wtL,List.length_singleton]; omega))
theorem OW (p:Nat):∀ (f:Nat) (b:Pb) (n:Nat),b.wt+1+3 * p≤3 * n→Ret (kH S rec d p f b n) fun b m=>b.wt+1+3 * p≤3 * m:=by
 intro f
 induction f with
 | zero=>intro b n _; exact bQ
 | succ f ih =>
  intro b n h;unfold kH;refine ax (fun _=>ai h) (fun hc=>?_)
  exact af (hrec .sig (n+1) trivial) (fun s m hs=>ih _ _ (by simp only [uz,aY,wtL,List.length_nil]; omega))
theorem RP (n:Nat):Ret (nO S F rec d n) fun b m=>b.wt+1+3 * n≤3 * m:=by
 unfold nO;exact af (BU hrec n) (fun b m hb=>OW hrec n F b m hb)
theorem Ec (n:Nat):Ret (jw S rec d n) fun l m=>wtL l.2+l.2.length+3 * n≤3 * m:=by
 unfold jw;refine af (P:=fun l m=>wtL l+l.length+3 * n≤3 * m) (ax (fun _=>ai (by simp [wtL])) (fun hc=>?_)) (fun l m hl=>?_)
 ·exact af (hrec .sig (n+1) trivial) (fun s m hs=>ai (by simp only [wtL,List.length_singleton]; omega))
 ·refine af (dD m) (fun _ m2 h2=>?_)
  exact af (hrec .str m2 trivial) (fun b m3 hb=>ai (by simp only [gB,wtL,List.length_append,List.length_singleton]; omega))
theorem yN {fr n:Nat} (hs:fr+1≤n):Ret (cO S rec d fr n) fun b m=>b.wt+1+3 * fr≤3 * m:=by
 unfold cO;refine af (gm n) (fun x m hx=>?_)
 exact af (Ec hrec m) (fun l m2 hl=>ai (by simp only [uz,aY,List.length_singleton]; omega))
theorem Ce {fr n:Nat} (hs:fr+1≤n):Ret (dS S rec d fr n) fun b m=>b.wt+1+3 * fr≤3 * m:=by
 unfold dS;refine af (gm n) (fun x m hx=>?_)
 refine af (dD m) (fun _ m2 h2=>?_)
 refine af (gm m2) (fun y m3 hy=>?_)
 refine af (dD m3) (fun _ m4 h4=>?_)
 refine af (hrec .sig m4 trivial) (fun g m5 hg=>?_)
 refine af (dD m5) (fun _ m6 h6=>?_)
 exact af (Ec hrec m6) (fun l m7 hl=>ai (by simp only [uz,aY,gB,wtL,List.length_cons,List.length_nil]; omega))
theorem Q7 (p:Nat):∀ (f:Nat) (acc:List Pb) (n:Nat),wtL acc+acc.length+3 * p≤3 * n→Ret (pI S F rec d f acc n) fun l m=>wtL l+l.length+3 * p≤3 * m:=by
 intro f
 induction f with
 | zero=>intro acc n _; exact bQ
 | succ f ih =>
  intro acc n h;unfold pI;exact ax (fun _=>af (jX hrec n) (fun b m hb=>ih _ _ (by simp only [gB,wtL,List.length_append,List.length_singleton]; omega))) (fun _=>ai h)
theorem Aa (n:Nat):Ret (cZ S F rec d n) fun b m=>b.wt+1+3 * n≤3 * m:=by
 unfold cZ;refine af (yx n) (fun x m hx=>?_)
 refine af (jX hrec m) (fun b m2 hb=>?_)
 refine af (Q7 hrec m F [b] m2 (by simp [wtL]; omega)) (fun l m3 hl=>?_)
 refine af (dD m3) (fun _ m4 h4=>?_)
 exact af (hrec .exp m4 trivial) (fun e m5 he=>ai (by simp only [aY,gB,wtL,List.length_singleton]; omega))
theorem Iy {fr n:Nat} (hs:fr+1≤n) (a:Nat):Ret (iE S F rec d fr a n) fun b m=>b.wt+1+3 * fr≤3 * m:=by
 unfold iE;refine af (qX hrec a n) (fun x m hx=>?_)
 refine af (dD m) (fun _ m2 h2=>?_)
 refine af (qX hrec a m2) (fun y m3 hy=>?_)
 exact af (dD m3) (fun _ m4 h4=>ai (by simp only [aY,wtL,List.length_nil]; omega))
theorem QV (a n:Nat):Ret (nS S F rec d a n) fun b m=>b.wt+1+3 * n≤3 * m:=by
 unfold nS;refine ax (fun h=>?_) (fun q1=>ax (fun h=>?_) (fun q2=>ax (fun h=>?_) (fun q3=>ax (fun h=>?_) (fun q4=>ax (fun h=>?_) (fun q5=>ax (fun h=>?_) (fun q6=>ax (fun h=>?_) (fun q7=>ax (fun h=>?_) (fun q8=>?_))))))))
 ·refine af (hrec .pat (n+1) trivial) (fun p m hp=>?_)
  refine af (dD m) (fun _ m2 h2=>?_)
  exact af (hrec .exp m2 trivial) (fun e m3 he=>ai (by simp only [aY,wtL,List.length_nil]; omega))
 ·exact af (nZ F (Aa hrec) (n+1)) (fun l m hl=>ai (by simp only [aY,List.length_nil]; omega))
 ·refine af (oI (n+1)) (fun x m hx=>?_)
  refine af (dD m) (fun _ m2 h2=>?_)
  exact af (hrec .ty m2 trivial) (fun b m3 hb=>ai (by simp only [aY,wtL,List.length_singleton]; omega))
 ·exact qJ hrec (by omega)
 ·exact yN hrec (by omega)
 ·refine af (gm (n+1)) (fun x m hx=>?_)
  refine af (dD m) (fun _ m2 h2=>?_)
  exact af (hrec .sig m2 trivial) (fun b m3 hb=>ai (by simp only [aY,wtL,List.length_singleton]; omega))
 ·exact Ce hrec (by omega)
 ·exact af (qw (n+1)) (fun p m hp=>ai (by simp only [aY,wtL]; omega))
 ·exact Iy hrec (by omega) a
end
theorem ML:∀ (f:Nat) (nt:Nt) (d n:Nat),S.may nt n→Ret (parts S f nt d n) fun b m=>b.wt+1+3 * n≤3 * m:=by
 intro f
 induction f with
 | zero=>intro nt d n _; exact bQ
 | succ f ih =>
  intro nt d n hm;unfold parts;refine ax (fun _=>wV) (fun _=>?_)
  have hrec:∀ nt k,S.may nt k→Ret (parts S f nt (d+1) k) fun b m=>b.wt+1+3 * k≤3 * m:=fun nt k hk=>ih nt (d+1) k hk
  cases nt with
  | exp=>exact Rz hrec n
  | pat=>exact QT hrec n
  | ty=>exact Vm hrec n
  | sig=>exact Qa hrec n
  | str=>exact RP hrec n
  | dec a=>exact QV hrec a n
theorem MX (F:Nat):Ret (jo S F 0) fun b m=>b.wt≤3 * m+1:=by
 unfold jo;exact af (ww (F:=F) (rec:=parts S F) (d:=0) (fun nt k hk=>ML F nt 0 k hk) 2 0) (fun l m hl=>ai (by simp only [aY,List.length_nil]; omega))
end
theorem ext_list (s:ByteArray) (a e:Nat):(s.extract a e).data.toList=(s.data.toList.take e).drop a:=by
 rw [ByteArray.data_extract,Array.toList_extract,List.extract_eq_take_drop,List.drop_take]
theorem zH {s t:ByteArray} (h:s.data.toList=t.data.toList):s=t:=by
 cases s; cases t; simp only at h; congr 1; exact Array.ext' h
theorem DW (s:ByteArray) (l:List Tok):firstT s (fH kR l)=firstT s l:=by
 induction l with
 | nil=>rfl
 | cons x r ih =>
  simp only [fH,firstT]
  cases hs:kR x.k
  ·have:iZ x=true:=by
    unfold iZ
    cases hk:(x.k == 3)
    ·rfl
    ·rw [beq_iff_eq.1 hk] at hs; exact absurd hs (by decide)
   rw [this]; exact ih
  ·simp only [cond_true,firstT,ih]
theorem tC (s:ByteArray):dZ s=firstT s (aN s):=by unfold dZ aN; rw [DW]
end Go.Proofs.YtmpmfamiegpmgaaGreatDoor
