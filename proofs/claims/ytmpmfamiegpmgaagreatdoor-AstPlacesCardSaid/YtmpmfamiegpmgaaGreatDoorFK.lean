/-
  The plain parser's branches are right, and each name in a text is one branch's, once.; How large the plain parser's branches are: a branch, all its parts and all their names are fewer than three for each token.; Pieces of texts; the first bad token by the words.
-/
import Derived.Test.YtmpmfamiegpmgaaGreatDoorFI
import Derived.Test.YtmpmfamiegpmgaaGreatDoorFJ
import Derived.Test.YtmpmfamiegpmgaaGreatDoorFS
namespace Go.Proofs.YtmpmfamiegpmgaaGreatDoor
open Go.RowKit
set_option maxRecDepth 20000
set_option linter.unusedVariables false
set_option linter.unusedSimpArgs false
def Pb.fr:Pb→Int | .mk _ _ f _ _ _=>f
def Pb.to:Pb→Int | .mk _ _ _ t _ _=>t
mutual
def Pb.cnt (x:Int):Pb→Nat
 | .mk _ _ _ _ ns ks=>ns.count x+oP x ks
def oP (x:Int):List Pb→Nat
 | []=>0
 | b :: r=>b.cnt x+oP x r
end
mutual
def Pb.Rt:Pb→Prop
 | .mk k _ f t ns ks=>0 < k∧0≤f∧f≤t∧(∀ n ∈ ns,f≤n∧n < t)∧dw f t ks
def dw (f t:Int):List Pb→Prop
 | []=>f≤t
 | b :: r=>b.Rt∧f≤b.fr∧dw b.to t r
end
theorem pG (x:Int) (a b:List Pb):oP x (a++b)=oP x a+oP x b:=by
 induction a with
 | nil=>simp [oP]
 | cons y r ih=>simp [oP,ih]; omega
theorem Pb.Rt.le {b:Pb} (h:b.Rt):0≤b.fr∧b.fr≤b.to:=by
 cases b; simp only [Pb.Rt] at h; exact ⟨h.2.1,h.2.2.1⟩
theorem dw.le {f t:Int}:∀ {l:List Pb},dw f t l→f≤t:=by
 intro l
 induction l generalizing f with
 | nil=>intro h; exact h
 | cons b r ih=>intro h; simp only [dw] at h; have:=ih h.2.2; have:=h.1.le; omega
theorem dw.low {f f' t:Int} (hf:f'≤f):∀ {l:List Pb},dw f t l→dw f' t l:=by
 intro l h
 cases l with
 | nil=>simp only [dw] at h ⊢; omega
 | cons b r=>simp only [dw] at h ⊢; exact ⟨h.1,by omega,h.2.2⟩
theorem dw.cat {m t:Int}:∀ {f:Int} {l r:List Pb},dw f m l→dw m t r→dw f t (l++r):=by
 intro f l
 induction l generalizing f with
 | nil=>intro r h1 h2; simp only [dw] at h1; exact h2.low h1
 | cons b l ih=>intro r h1 h2; simp only [dw,List.cons_append] at h1 ⊢; exact ⟨h1.1,h1.2.1,ih h1.2.2 h2⟩
theorem dw.up {f t t':Int} {l:List Pb} (h:dw f t l) (ht:t≤t'):dw f t' l:=by
 have:=dw.cat (r:=[]) h (by simpa only [dw] using ht)
 simpa using this
def Src.nm (S:Src) (n:Nat):Bool:=S.kd n == 6 || S.kd n == 7 || S.kd n == 9
structure Cov (S:Src) (n m:Nat) (c:Int→Nat):Prop where
 le:n≤m
 one:∀ x,c x≤1
 inn:∀ x,0 < c x→(n:Int)≤x∧x < (m:Int)
 nm:∀ x:Nat,0 < c (x:Int)→S.nm x=true
 all:∀ x:Nat,n≤x→x < m→S.nm x=true→S.is x [42]=false→0 < c (x:Int)
abbrev iP (S:Src) (n m:Nat):Prop:=Cov S n m fun _=>0
section
variable {S:Src}
theorem Cov.ext {n m:Nat} {c d:Int→Nat} (h:Cov S n m c) (e:∀ x,d x=c x):Cov S n m d:=by
 have:d=c:=funext e
 subst this; exact h
theorem Cov.add {n m k:Nat} {c d:Int→Nat} (h:Cov S n m c) (g:Cov S m k d):Cov S n k fun x=>c x+d x where
 le:=Nat.le_trans h.le g.le
 one x:=by
  rcases Nat.eq_zero_or_pos (c x) with hc | hc
  ·have:=g.one x; omega
  ·rcases Nat.eq_zero_or_pos (d x) with hd | hd
   ·have:=h.one x; omega
   ·have:=h.inn x hc; have:=g.inn x hd; omega
 inn x hx:=by
  have h1:=h.le; have h2:=g.le
  rcases Nat.eq_zero_or_pos (c x) with hc | hc
  ·have:=g.inn x (by omega); omega
  ·have:=h.inn x hc; omega
 nm x hx:=by
  rcases Nat.eq_zero_or_pos (c x) with hc | hc
  ·exact g.nm x (by omega)
  ·exact h.nm x hc
 all x h1 h2 h3 h4:=by
  rcases Nat.lt_or_ge x m with hx | hx
  ·have:=h.all x h1 hx h3 h4; omega
  ·have:=g.all x hx h2 h3 h4; omega
theorem iP.nil (n:Nat):iP S n n:=⟨Nat.le_refl _,fun _=>by omega,fun _ h=>by omega,fun _ h=>by omega,fun x h1 h2=>by omega⟩
theorem Bg {n:Nat} (h:S.nm n=false∨S.is n [42]=true):iP S n (n+1) :=
 ⟨by omega,fun _=>by omega,fun _ h=>by omega,fun _ h=>by omega,fun x h1 h2 h3 h4=>by
  have:x=n:=by omega
  subst this
  rcases h with h | h
  ·rw [h3] at h; cases h
  ·rw [h4] at h; cases h⟩
theorem iP.cat {n m k:Nat} (h:iP S n m) (g:iP S m k):iP S n k:=(h.add g).ext fun _=>rfl
theorem Cov.skip {n m k:Nat} {c:Int→Nat} (h:Cov S n m c) (g:iP S m k):Cov S n k c:=(h.add g).ext fun _=>rfl
theorem iP.then {n m k:Nat} {c:Int→Nat} (g:iP S n m) (h:Cov S m k c):Cov S n k c:=(g.add h).ext fun x=>by simp
def cnN (l:List Nat) (x:Int):Nat:=(l.map fun y:Nat=>(y:Int)).count x
theorem zN (x:Int):cnN [] x=0:=rfl
theorem wZ (a b:List Nat) (x:Int):cnN (a++b) x=cnN a x+cnN b x:=by simp [cnN,List.count_append]
theorem vJ {n:Nat} (h:S.nm n=true):Cov S n (n+1) (cnN [n]):=by
 have e:∀ x:Int,cnN [n] x=if x=n then 1 else 0:=fun x=>by
  by_cases hx:x=(n:Int)
  ·subst hx; simp [cnN]
  ·simp only [cnN,List.map_cons,List.map_nil,hx,if_false]
   rw [List.count_cons_of_ne (fun e=>hx e.symm)]; rfl
 refine ⟨by omega,fun x=>by rw [e]; split <;> omega,fun x hx=>?_,fun x hx=>?_,fun x h1 h2 h3 _=>?_⟩
 ·rw [e] at hx; split at hx <;> omega
 ·rw [e] at hx
  split at hx
  ·have:x=n:=by omega
   subst this; exact h
  ·omega
 ·have:x=n:=by omega
  subst this
  rw [e,if_pos rfl]; omega
def Ret {α:Type} (o:Out α) (P:α→Nat→Prop):Prop:=∀ x m,o=.ok x m→P x m
theorem af {α β:Type} {o:Out α} {f:α→Nat→Out β} {P:α→Nat→Prop} {Q:β→Nat→Prop} (h:Ret o P) (hf:∀ x m,P x m→Ret (f x m) Q):Ret (o.bind f) Q:=by
 intro x m e
 cases o with
 | ok a n=>exact hf a n (h a n rfl) x m e
 | form n=>cases e
 | deep n=>cases e
 | dry=>cases e
theorem ai {α:Type} {x:α} {m:Nat} {P:α→Nat→Prop} (h:P x m):Ret (.ok x m) P:=by
 intro y k e
 injection e with e1 e2
 subst e1 e2; exact h
theorem jC {α:Type} {n:Nat} {P:α→Nat→Prop}:Ret (.form n:Out α) P:=fun _ _ e=>by cases e
theorem xG {α:Type} {n:Nat} {P:α→Nat→Prop}:Ret (.deep n:Out α) P:=fun _ _ e=>by cases e
theorem bT {α:Type} {P:α→Nat→Prop}:Ret (.dry:Out α) P:=fun _ _ e=>by cases e
theorem au {α:Type} {c:Bool} {a b:Out α} {P:α→Nat→Prop} (ha:c=true→Ret a P) (hb:c=false→Ret b P):Ret (bif c then a else b) P:=by
 cases c
 ·exact hb rfl
 ·exact ha rfl
theorem Ret.mono {α:Type} {o:Out α} {P Q:α→Nat→Prop} (h:Ret o P) (hq:∀ x m,P x m→Q x m):Ret o Q:=fun x m e=>hq x m (h x m e)
structure QB (S:Src) (n:Nat) (b:Pb) (m:Nat):Prop where
 rt:b.Rt
 lo:(n:Int)≤b.fr
 hi:b.to≤(m:Int)
 cov:Cov S n m fun x=>b.cnt x
structure QL (S:Src) (n:Nat) (l:List Pb) (m:Nat):Prop where
 ch:dw n m l
 cov:Cov S n m fun x=>oP x l
structure QN (S:Src) (n:Nat) (l:List Nat) (m:Nat):Prop where
 inn:∀ x ∈ l,n≤x∧x < m
 cov:Cov S n m (cnN l)
theorem QL.nil (n:Nat):QL S n [] n:=⟨by simp [dw],(iP.nil n).ext fun _=>rfl⟩
theorem QL.skip {n m k:Nat} {l:List Pb} (h:QL S n l m) (g:iP S m k):QL S n l k:=⟨h.ch.up (by have:=g.le; omega),h.cov.skip g⟩
theorem iP.ql {n m k:Nat} {l:List Pb} (g:iP S n m) (h:QL S m l k):QL S n l k:=⟨h.ch.low (by have:=g.le; omega),g.then h.cov⟩
theorem QL.cat {n m k:Nat} {l r:List Pb} (h:QL S n l m) (g:QL S m r k):QL S n (l++r) k:=⟨h.ch.cat g.ch,(h.cov.add g.cov).ext fun x=>pG x l r⟩
theorem QB.ql {n m:Nat} {b:Pb} (h:QB S n b m):QL S n [b] m:=⟨by simp only [dw]; exact ⟨h.rt,h.lo,h.hi⟩,h.cov.ext fun x=>by simp [oP]⟩
theorem QL.one {n m:Nat} {b:Pb} (h:QL S n [b] m):QB S n b m:=by
 have hc:=h.ch
 simp only [dw] at hc
 exact ⟨hc.1,hc.2.1,hc.2.2,h.cov.ext fun x=>by simp [oP]⟩
theorem QB.skip {n m k:Nat} {b:Pb} (h:QB S n b m) (g:iP S m k):QB S n b k:=(h.ql.skip g).one
theorem iP.qb {n m k:Nat} {b:Pb} (g:iP S n m) (h:QB S m b k):QB S n b k:=(g.ql h.ql).one
theorem QN.nil (n:Nat):QN S n [] n:=⟨fun x hx=>(by cases hx),(iP.nil n).ext fun _=>rfl⟩
theorem QN.skip {n m k:Nat} {l:List Nat} (h:QN S n l m) (g:iP S m k):QN S n l k:=⟨fun x hx=>by have:=h.inn x hx; have:=g.le; omega,h.cov.skip g⟩
theorem iP.qn {n m k:Nat} {l:List Nat} (g:iP S n m) (h:QN S m l k):QN S n l k:=⟨fun x hx=>by have:=h.inn x hx; have:=g.le; omega,g.then h.cov⟩
theorem QN.cat {n m k:Nat} {l r:List Nat} (h:QN S n l m) (g:QN S m r k):QN S n (l++r) k :=
 ⟨fun x hx=>by
  have h1:=h.cov.le; have h2:=g.cov.le
  rcases List.mem_append.1 hx with hx | hx
  ·have:=h.inn x hx; omega
  ·have:=g.inn x hx; omega,(h.cov.add g.cov).ext fun x=>wZ l r x⟩
theorem mr {k:Int} {n m:Nat} {ns:List Nat} {l:List Pb} {c:Int→Nat} (hk:0 < k) (hn:∀ x ∈ ns,n≤x∧x < m) (hl:dw n m l) (hc:Cov S n m c) (he:∀ x,cnN ns x+oP x l=c x):QB S n (node k n m ns l) m:=by
 refine ⟨?_,?_,?_,hc.ext fun x=>?_⟩
 ·have:=hc.le
  simp only [node,Pb.Rt]
  refine ⟨hk,by omega,by omega,fun x hx=>?_,hl⟩
  obtain ⟨y,hy,rfl⟩:=List.mem_map.1 hx
  have:=hn y hy; omega
 ·simp [node,Pb.fr]
 ·simp [node,Pb.to]
 ·simp only [node,Pb.cnt]; exact he x
theorem eG {k:Int} {n m:Nat} {l:List Pb} (hk:0 < k) (h:QL S n l m):QB S n (node k n m [] l) m :=
 mr hk (fun x hx=>by cases hx) h.ch h.cov (fun x=>by simp [zN])
theorem jw {k:Int} {n m:Nat} {ns:List Nat} (hk:0 < k) (h:QN S n ns m):QB S n (node k n m ns []) m :=
 mr hk h.inn (by simp only [dw]; have:=h.cov.le; omega) h.cov (fun x=>by simp [oP])
theorem jc {k:Int} {n j m:Nat} {ns:List Nat} {l:List Pb} (hk:0 < k) (h:QN S n ns j) (g:QL S j l m):QB S n (node k n m ns l) m :=
 mr hk (fun x hx=>by have:=h.inn x hx; have:=g.cov.le; omega) (g.ch.low (by have:=h.cov.le; omega)) (h.cov.add g.cov) (fun x=>rfl)
theorem GX {k:Int} {n j m:Nat} {ns:List Nat} {l:List Pb} (hk:0 < k) (g:QL S n l j) (h:QN S j ns m):QB S n (node k n m ns l) m :=
 mr hk (fun x hx=>by have:=h.inn x hx; have:=g.cov.le; omega) (g.ch.up (by have:=h.cov.le; omega)) (g.cov.add h.cov) (fun x=>Nat.add_comm _ _)
theorem Me {k:Int} {n i j m:Nat} {ns:List Nat} {l r:List Pb} (hk:0 < k) (g:QL S n l i) (h:QN S i ns j) (g2:QL S j r m):QB S n (node k n m ns (l++r)) m:=by
 have h1:=g.cov.le; have h2:=h.cov.le; have h3:=g2.cov.le
 exact mr hk (fun x hx=>by have:=h.inn x hx; omega) ((g.ch.up (by omega)).cat (g2.ch)) ((g.cov.add h.cov).add g2.cov) (fun x=>by rw [pG]; omega)
theorem QB.marked {n m:Nat} {b:Pb} {k:Int} (h:QB S n b m):QB S n (marked k b) m:=by
 obtain ⟨h1,h2,h3,h4⟩:=h
 cases b
 exact ⟨by simpa only [Go.Proofs.YtmpmfamiegpmgaaGreatDoor.marked,Pb.Rt] using h1,h2,h3,h4.ext fun x=>by simp only [Go.Proofs.YtmpmfamiegpmgaaGreatDoor.marked,Pb.cnt]⟩
theorem vT {k:Int} {n m:Nat} {l:List Pb} (hk:0 < k) (h:QL S n l m):QB S n (fO l k n m []) m:=by
 unfold fO
 split
 ·exact h.one
 ·exact eG hk h
end
def xQ (t:List UInt8):Bool:=t == [42] || !((bf t).1 == 6 || (bf t).1 == 7 || (bf t).1 == 9)
theorem NH (ask:Int→Bool) (l:List Tok):∀ t ∈ dO ask l,t ∈ l:=by
 induction l with
 | nil=>intro t h; exact h
 | cons x r ih =>
  intro t h
  unfold dO at h
  cases hx:ask x.k <;> rw [hx] at h
  ·exact List.mem_cons_of_mem _ (ih t h)
  ·rcases List.mem_cons.1 h with rfl | h
   ·exact List.mem_cons_self
   ·exact List.mem_cons_of_mem _ (ih t h)
theorem Tv {S:Src} (T:S.ts=aN S.s) (n:Nat):S.kd n=(bf (S.tx n).data.toList).1:=by
 unfold Src.kd Src.tx
 cases h:S.ts[n]? with
 | none=>rfl
 | some t =>
  have hm:t ∈ jZ S.s:=by
   have:t ∈ S.ts:=List.mem_of_getElem? h
   rw [T] at this
   unfold aN at this
   exact NH _ _ _ this
  obtain ⟨h1,h2⟩:=Jk S.s 0 (by omega) t hm
  simp only
  by_cases hlt:t.a < S.s.size
  ·have e:=mO S.s t.a hlt
   rw [← h2] at e
   have hne:S.s.data.toList.drop t.a≠[]:=by rw [drop_at S.s t.a hlt]; simp
   have ha:=Jd (S.s.data.toList.drop t.a) hne
   have ek:t.k=(bf (S.s.data.toList.drop t.a)).1:=congrArg Tok.k e
   have ee:t.e=t.a+(bf (S.s.data.toList.drop t.a)).2:=congrArg Tok.e e
   rw [ee,extract_drop,ha,ek]
  ·have:t.a=S.s.size:=by omega
   rw [this,jP] at h2
   have hk:t.k=0:=congrArg Tok.k h2
   have he:t.e=S.s.size:=congrArg Tok.e h2
   rw [hk,he,this]
   have:(S.s.extract S.s.size S.s.size).data.toList=[]:=by
    apply List.eq_nil_of_length_eq_zero
    simp
   rw [this]; rfl
section
variable {S:Src} (T:S.ts=aN S.s)
include T
theorem bI {t:List UInt8} (ht:xQ t=true) {n:Nat} (h:S.is n t=true):iP S n (n+1):=by
 have e:(S.tx n).data.toList=t:=by unfold Src.is at h; simpa using h
 have hk:=Tv T n
 rw [e] at hk
 unfold xQ at ht
 refine Bg ?_
 rcases Bool.or_eq_true_iff.1 ht with h1 | h1
 ·right; rw [beq_iff_eq.1 h1] at h; exact h
 ·left; unfold Src.nm; rw [hk]; simpa using h1
omit T in
theorem sN {n:Nat} {k:Int} (h:(S.kd n == k)=true) (hk:(k == 6 || k == 7 || k == 9)=false):iP S n (n+1):=by
 refine Bg (.inl ?_)
 unfold Src.nm
 rw [beq_iff_eq.1 h]; exact hk
theorem dF {t:List UInt8} (ht:xQ t=true) (n:Nat):Ret (S.need t n) fun _ m=>iP S n m:=by
 unfold Src.need
 exact au (fun h=>ai (bI T ht h)) (fun _=>jC)
omit T in
theorem gY {ks:List Int} (hk:∀ k ∈ ks,(k == 6 || k == 7 || k == 9)=true) (n:Nat):Ret (S.take ks n) fun x m=>QN S n [x] m:=by
 unfold Src.take
 refine au (fun h=>ai ⟨fun x hx=>?_,vJ ?_⟩) (fun _=>jC)
 ·have:x=n:=by simpa using hx
  omega
 ·exact hk _ (by simpa using h)
omit T in
theorem GM (n:Nat):Ret (S.take [8] n) fun _ m=>iP S n m:=by
 unfold Src.take
 refine au (fun h=>ai (sN (k:=8) ?_ rfl)) (fun _=>jC)
 simpa using h
theorem Mc {ks:List Int} (hk:∀ k ∈ ks,(k == 6 || k == 7 || k == 9)=true) (p:Nat):∀ (f:Nat) (acc:List Nat) (n:Nat),QN S p acc n→Ret (S.pathL ks f acc n) fun l m=>QN S p l m:=by
 intro f
 induction f with
 | zero=>intro acc n _; exact bT
 | succ f ih =>
  intro acc n h
  unfold Src.pathL
  refine au (fun hc=>?_) (fun _=>ai h)
  simp only [Bool.and_eq_true] at hc
  have hs:=bI T (t:=[46]) (by kernel_rfl) hc.2
  exact af (gY hk (n+1)) (fun x m hx=>ih _ _ (h.cat (hs.qn hx)))
theorem pJ {ks:List Int} (hk:∀ k ∈ ks,(k == 6 || k == 7 || k == 9)=true) (n:Nat):Ret (S.path ks n) fun l m=>QN S n l m:=by
 unfold Src.path
 exact af (gY hk n) (fun x m hx=>Mc T hk n _ _ _ hx)
theorem lL (n:Nat):Ret (S.typePath n) fun l m=>QN S n l m:=by
 unfold Src.typePath
 exact af (pJ T (by decide) n) (fun p m hp=>au (fun _=>ai hp) (fun _=>jC))
theorem vO (n:Nat):Ret (S.value n) fun x m=>QN S n [x] m:=by
 unfold Src.value
 refine au (fun h=>?_) (fun _=>gY (by decide) n)
 exact (gY (by decide) (n+1)).mono fun x m hx=>(bI T (by kernel_rfl) h).qn hx
theorem PO {mark:List UInt8} (hm:xQ mark=true) {read:Nat→Out Pb} (hr:∀ k,Ret (read k) fun b m=>QB S k b m) (p:Nat):∀ (f:Nat) (acc:List Pb) (n:Nat),QL S p acc n→Ret (lI S mark read f acc n) fun l m=>QL S p l m:=by
 intro f
 induction f with
 | zero=>intro acc n _; exact bT
 | succ f ih =>
  intro acc n h
  unfold lI
  refine au (fun hc=>?_) (fun _=>ai h)
  exact af (hr (n+1)) (fun b m hb=>ih _ _ (h.cat ((bI T hm hc).ql hb.ql)))
theorem nT (F:Nat) {mark:List UInt8} (hm:xQ mark=true) {read:Nat→Out Pb} (hr:∀ k,Ret (read k) fun b m=>QB S k b m) (n:Nat):Ret (gV S F mark read n) fun l m=>QL S n l m:=by
 unfold gV
 exact af (hr n) (fun b m hb=>PO T hm hr n F [b] m hb.ql)
theorem DD (n:Nat) (h:((S.colon n).1 == 0)=false):iP S n (n+1):=by
 unfold Src.colon at h
 cases h1:S.is n [58]
 ·cases h2:S.is n [58,62]
  ·rw [h1,h2] at h; cases h
  ·exact bI T (by kernel_rfl) h2
 ·exact bI T (by kernel_rfl) h1
section
variable {F:Nat} {rec:Nt→Nat→Nat→Out Pb} {d:Nat} (hrec:∀ nt k,S.may nt k→Ret (rec nt d k) fun b m=>QB S k b m)
include hrec
theorem Aa (n:Nat):Ret (dH S F rec d n) fun b m=>QB S n b m:=by
 unfold dH
 refine au (fun h=>ai (eG (by decide) ((QL.nil n).skip (sN h rfl)))) (fun _=>au (fun h=>?_) (fun _=>?_))
 ·refine af (nT T F (by kernel_rfl) (fun k=>hrec .ty k trivial) (n+1)) (fun l m hl=>?_)
  refine af (dF T (by kernel_rfl) m) (fun _ m2 h2=>?_)
  have hl2:=(bI T (by kernel_rfl) h).ql (hl.skip h2)
  unfold qy
  split
  ·exact ai hl2.one
  ·exact af (lL T m2) (fun p m3 hp=>ai (GX (by decide) hl2 hp))
 ·exact af (lL T n) (fun p m3 hp=>ai (jw (by decide) hp))
theorem Cf (n:Nat):∀ (f:Nat) (b:Pb) (m:Nat),QB S n b m→Ret (dJ S n f b m) fun b m=>QB S n b m:=by
 have _:=hrec
 intro f
 induction f with
 | zero=>intro b m _; exact bT
 | succ f ih =>
  intro b m h
  unfold dJ
  exact au (fun _=>af (lL T m) (fun p m1 hp=>ih _ _ (GX (by decide) h.ql hp))) (fun _=>ai h)
theorem DC (n:Nat):Ret (dA S F rec d n) fun b m=>QB S n b m:=by
 unfold dA
 exact af (Aa T hrec n) (fun b m hb=>Cf T hrec n F b m hb)
theorem Dz (n:Nat):Ret (dX S F rec d n) fun b m=>QB S n b m:=by
 unfold dX
 exact af (nT T F (by kernel_rfl) (DC T hrec) n) (fun l m hl=>ai (vT (by decide) hl))
theorem TT (n:Nat):Ret (tyO S F rec d n) fun b m=>QB S n b m:=by
 unfold tyO
 refine af (Dz T hrec n) (fun b m hb=>au (fun h=>?_) (fun _=>ai hb))
 exact af (hrec .ty (m+1) trivial) (fun c m2 hc=>ai (eG (by decide) (hb.ql.cat ((bI T (by kernel_rfl) h).ql hc.ql))))
omit hrec in
theorem JG {fr n:Nat} (hs:iP S fr n) {member:Nat→Out Pb} (hm:∀ k,Ret (member k) fun b m=>QB S k b m):Ret (iE S F fr member n) fun b m=>QB S fr b m:=by
 unfold iE
 refine au (fun h=>ai (eG (by decide) ((QL.nil fr).skip (hs.cat (bI T (by kernel_rfl) h))))) (fun _=>?_)
 refine af (nT T F (by kernel_rfl) hm n) (fun l m hl=>?_)
 exact af (dF T (by kernel_rfl) m) (fun _ m2 h2=>ai (vT (by decide) (hs.ql (hl.skip h2))))
omit hrec in
theorem yR {named:Int} (hk:0 < named) {member:Nat→Out Pb} (hm:∀ k,Ret (member k) fun b m=>QB S k b m) (n:Nat):Ret (plainO S F named member n) fun b m=>QB S n b m:=by
 unfold plainO
 refine au (fun h=>ai (eG (by decide) ((QL.nil n).skip (sN h rfl)))) (fun _=>au (fun h=>ai (eG (by decide) ((QL.nil n).skip (sN h rfl)))) (fun _=>au (fun h=>?_) (fun _=>?_)))
 ·exact JG T (bI T (by kernel_rfl) h) hm
 ·exact af (vO T n) (fun x m hx=>ai (jw hk hx))
theorem jV (n:Nat):Ret (bV S F rec d n) fun b m=>QB S n b m:=by
 unfold bV
 refine au (fun h=>ai (eG (by decide) ((QL.nil n).skip (bI T (by kernel_rfl) h)))) (fun _=>au (fun _=>?_) (fun _=>yR T (by decide) (fun k=>hrec .pat k trivial) n))
 exact af (pJ T (by decide) n) (fun p m hp=>ai (jw (by decide) hp))
theorem Qn (n:Nat):Ret (ou S F rec d n) fun b m=>QB S n b m:=by
 unfold ou
 refine au (fun h=>?_) (fun _=>au (fun _=>?_) (fun _=>jV T hrec n))
 ·simp only [Bool.and_eq_true,beq_iff_eq] at h
  have h1:QN S n [n] (n+1):=⟨fun x hx=>by have:x=n:=(by simpa using hx); omega,vJ (by unfold Src.nm; rw [h.1]; rfl)⟩
  exact af (hrec .pat (n+2) trivial) (fun b m hb=>ai (jc (by decide) h1 ((bI T (by kernel_rfl) h.2).ql hb.ql)))
 ·refine af (pJ T (by decide) n) (fun p m hp=>au (fun _=>?_) (fun _=>ai (jw (by decide) hp)))
  exact af (jV T hrec m) (fun b m2 hb=>ai (jc (by decide) hp hb.ql))
theorem N9 (a p:Nat):∀ (f:Nat) (acc:List Pb) (n:Nat),QL S p acc n→Ret (jI S rec d a f acc n) fun l m=>QL S p l m:=by
 intro f
 induction f with
 | zero=>intro acc n _; exact bT
 | succ f ih =>
  intro acc n h
  unfold jI
  refine au (fun hc=>ih _ _ (h.skip (bI T (by kernel_rfl) hc))) (fun _=>au (fun hd=>?_) (fun _=>ai h))
  exact af (hrec (.dec a) n hd) (fun b m hb=>ih _ _ (h.cat hb.ql))
theorem vM (a n:Nat):Ret (iw S F rec d a n) fun l m=>QL S n l m:=N9 T hrec a n F [] n (QL.nil n)
theorem qN (a n:Nat):Ret (fE S F rec d a n) fun b m=>QB S n b m:=by
 unfold fE
 exact af (vM T hrec a n) (fun l m hl=>ai (eG (by decide) hl))
theorem Dv (n:Nat):Ret (iJ S F rec d n) fun b m=>QB S n b m:=by
 unfold iJ
 refine au (fun _=>?_) (fun _=>au (fun h=>?_) (fun _=>yR T (by decide) (fun k=>hrec .exp k trivial) n))
 ·exact af (pJ T (by decide) n) (fun p m hp=>au (fun _=>ai (jw (by decide) hp)) (fun _=>ai (jw (by decide) hp)))
 ·refine af (qN T hrec 0 (n+1)) (fun ds m hd=>?_)
  refine af (dF T (by kernel_rfl) m) (fun _ m2 h2=>?_)
  refine af (hrec .exp m2 trivial) (fun e m3 he=>?_)
  exact af (dF T (by kernel_rfl) m3) (fun _ m4 h4=>ai (eG (by decide) (((bI T (by kernel_rfl) h).ql hd.ql).cat (h2.ql (he.ql.skip h4)))))
theorem MK (p:Nat):∀ (f:Nat) (acc:List Pb) (n:Nat),QL S p acc n→Ret (je S F rec d f acc n) fun l m=>QL S p l m:=by
 intro f
 induction f with
 | zero=>intro acc n _; exact bT
 | succ f ih =>
  intro acc n h
  unfold je
  exact au (fun _=>af (Dv T hrec n) (fun b m hb=>ih _ _ (h.cat hb.ql))) (fun _=>ai h)
theorem Dy (n:Nat):Ret (jH S F rec d n) fun b m=>QB S n b m:=by
 unfold jH
 refine af (Dv T hrec n) (fun b m hb=>?_)
 exact af (MK T hrec n F [b] m hb.ql) (fun l m2 hl=>ai (vT (by decide) hl))
def QI (S:Src) (n:Nat) (l:List Nat × List Pb) (m:Nat):Prop:=l.2.length=l.1.length+1∧dw n m l.2∧(∀ x ∈ l.1,n≤x∧x < m)∧Cov S n m fun x=>cnN l.1 x+oP x l.2
theorem J7 (p:Nat):∀ (f:Nat) (sg:List Nat) (acc:List Pb) (n:Nat),QI S p (sg,acc) n→Ret (iY S F rec d f sg acc n) fun l m=>QI S p l m:=by
 intro f
 induction f with
 | zero=>intro sg acc n _; exact bT
 | succ f ih =>
  intro sg acc n h
  unfold iY
  refine au (fun _=>?_) (fun _=>ai h)
  refine af (gY (by decide) n) (fun x m hx=>af (Dy T hrec m) (fun b m2 hb=>ih _ _ _ ?_))
  obtain ⟨h1,h2,h3,h4⟩:=h
  have i1:=h4.le; have i2:=hx.cov.le; have i3:=hb.cov.le
  have h1':acc.length=sg.length+1:=h1
  have h3':∀ x ∈ sg,p≤x∧x < n:=h3
  refine ⟨by simp only [List.length_append,List.length_singleton]; omega,(h2.up (by omega)).cat hb.ql.ch,fun y hy=>?_,((h4.add hx.cov).add hb.cov).ext fun y=>?_⟩
  ·rcases List.mem_append.1 hy with hy | hy
   ·have:=h3' y hy; omega
   ·have:=hx.inn y hy; omega
  ·simp only [wZ,pG,oP]; omega
theorem IU (n:Nat):Ret (gK S F rec d n) fun b m=>QB S n b m:=by
 unfold gK
 refine af (Dy T hrec n) (fun b m hb=>?_)
 refine af (J7 T hrec n F [] [b] m ⟨rfl,hb.ql.ch,fun x hx=>(by cases hx),hb.ql.cov.ext fun x=>by simp [zN]⟩) (fun l m2 hl=>ai ?_)
 obtain ⟨sg,ks⟩:=l
 obtain ⟨h1,h2,h3,h4⟩:=hl
 have h1:ks.length=sg.length+1:=h1
 have h2:dw n m2 ks:=h2
 have h4:Cov S n m2 fun x=>cnN sg x+oP x ks:=h4
 show QB S n (fO ks 37 n m2 sg) m2
 unfold fO
 split
 ·next b =>
  have h1:1=sg.length+1:=h1
  have:sg=[]:=List.length_eq_zero_iff.1 (by omega)
  subst this
  exact QL.one ⟨h2,h4.ext fun x=>by simp [zN]⟩
 ·exact mr (by decide) h3 h2 h4 (fun _=>rfl)
theorem xK {k:Int} (hk:0 < k) {fr n:Nat} (hs:iP S fr n):Ret (fF S rec d k fr n) fun b m=>QB S fr b m:=by
 unfold fF
 refine af (hrec .pat n trivial) (fun p m hp=>?_)
 refine af (dF T (by kernel_rfl) m) (fun _ m2 h2=>?_)
 exact af (hrec .exp m2 trivial) (fun e m3 he=>ai (eG hk ((hs.ql hp.ql).cat (h2.ql he.ql))))
theorem PL (n:Nat):Ret (yl S rec d n) fun b m=>QB S n b m:=xK T hrec (by decide) (iP.nil n)
theorem PS (n:Nat):Ret (ny S F rec d n) fun b m=>QB S n b m:=by
 unfold ny
 refine au (fun h=>?_) (fun _=>au (fun h=>?_) (fun _=>au (fun h=>?_) (fun _=>IU T hrec n)))
 ·refine af (hrec .exp (n+1) trivial) (fun a m ha=>?_)
  refine af (dF T (by kernel_rfl) m) (fun _ m2 h2=>?_)
  refine af (hrec .exp m2 trivial) (fun b m3 hb=>?_)
  refine af (dF T (by kernel_rfl) m3) (fun _ m4 h4=>?_)
  exact af (hrec .exp m4 trivial) (fun c m5 hc=>ai (eG (by decide) (((bI T (by kernel_rfl) h).ql ha.ql).cat ((h2.ql hb.ql).cat (h4.ql hc.ql)))))
 ·refine af (hrec .exp (n+1) trivial) (fun a m ha=>?_)
  refine af (dF T (by kernel_rfl) m) (fun _ m2 h2=>?_)
  exact af (nT T F (by kernel_rfl) (PL T hrec) m2) (fun l m3 hl=>ai (eG (by decide) (((bI T (by kernel_rfl) h).ql ha.ql).cat (h2.ql hl))))
 ·exact xK T hrec (by decide) (bI T (by kernel_rfl) h)
omit hrec in
theorem L8 (p:Nat):∀ (f n:Nat),iP S p n→Ret (jB S f n) fun _ m=>iP S p m:=by
 intro f
 induction f with
 | zero=>intro n _; exact bT
 | succ f ih =>
  intro n h
  unfold jB
  exact au (fun hc=>af (GM (n+1)) (fun _ m hm=>ih _ ((h.cat (bI T (by kernel_rfl) hc)).cat hm))) (fun _=>ai h)
omit hrec in
theorem nY (n:Nat):Ret (bW S F n) fun x m=>QN S n [x] m:=by
 unfold bW
 refine au (fun h=>?_) (fun _=>au (fun h=>?_) (fun _=>gY (by decide) n))
 ·exact (gY (by decide) (n+1)).mono fun x m hx=>(sN h rfl).qn hx
 ·refine af (GM (n+1)) (fun _ m hm=>?_)
  refine af (L8 T (n+1) F m hm) (fun _ m2 h2=>?_)
  refine af (dF T (by kernel_rfl) m2) (fun _ m3 h3=>?_)
  exact (gY (by decide) m3).mono fun x m hx=>((bI T (by kernel_rfl) h).cat (h2.cat h3)).qn hx
theorem P5 (n:Nat):Ret (lZ S rec d n) fun b m=>QB S n b m:=by
 unfold lZ
 refine af (gY (by decide) n) (fun x m hx=>au (fun h=>?_) (fun _=>ai (jw (by decide) hx)))
 exact af (hrec .ty (m+1) trivial) (fun b m2 hb=>ai (jc (by decide) hx ((bI T (by kernel_rfl) h).ql hb.ql)))
theorem Ik (n:Nat):Ret (gy S F rec d n) fun b m=>QB S n b m:=by
 unfold gy
 refine af (nY T n) (fun x m hx=>?_)
 refine af (dF T (by kernel_rfl) m) (fun _ m2 h2=>?_)
 exact af (nT T F (by kernel_rfl) (P5 T hrec) m2) (fun l m3 hl=>ai (jc (by decide) hx (h2.ql hl)))
theorem qA {fr n:Nat} (hs:iP S fr n):Ret (bZ S F rec d fr n) fun b m=>QB S fr b m:=by
 unfold bZ
 exact af (nT T F (by kernel_rfl) (Ik T hrec) n) (fun l m hl=>ai (eG (by decide) (hs.ql hl)))
theorem Nh (n:Nat):Ret (jF S F rec d n) fun b m=>QB S n b m:=by
 unfold jF
 refine au (fun h=>?_) (fun _=>au (fun h=>?_) (fun _=>au (fun h=>?_) (fun _=>au (fun h=>?_) (fun _=>?_))))
 ·refine af (vO T (n+1)) (fun x m hx=>?_)
  refine af (dF T (by kernel_rfl) m) (fun _ m2 h2=>?_)
  exact af (hrec .ty m2 trivial) (fun b m3 hb=>ai (jc (by decide) ((bI T (by kernel_rfl) h).qn hx) (h2.ql hb.ql)))
 ·refine af (nY T (n+1)) (fun x m hx=>au (fun h2=>?_) (fun _=>ai (jw (by decide) ((bI T (by kernel_rfl) h).qn hx))))
  exact af (hrec .ty (m+1) trivial) (fun b m3 hb=>ai (jc (by decide) ((bI T (by kernel_rfl) h).qn hx) ((bI T (by kernel_rfl) h2).ql hb.ql)))
 ·exact qA T hrec (bI T (by kernel_rfl) h)
 ·refine af (gY (by decide) (n+1)) (fun x m hx=>?_)
  refine af (dF T (by kernel_rfl) m) (fun _ m2 h2=>?_)
  exact af (hrec .sig m2 trivial) (fun b m3 hb=>ai (jc (by decide) ((bI T (by kernel_rfl) h).qn hx) (h2.ql hb.ql)))
 ·refine af (dF T (by kernel_rfl) n) (fun _ m2 h2=>?_)
  exact af (hrec .sig m2 trivial) (fun b m3 hb=>ai (eG (by decide) (h2.ql hb.ql)))
theorem JI (p:Nat):∀ (f:Nat) (acc:List Pb) (n:Nat),QL S p acc n→Ret (iD S F rec d f acc n) fun l m=>QL S p l m:=by
 intro f
 induction f with
 | zero=>intro acc n _; exact bT
 | succ f ih =>
  intro acc n h
  unfold iD
  refine au (fun hc=>ai (h.skip (bI T (by kernel_rfl) hc))) (fun _=>au (fun hc=>ih _ _ (h.skip (bI T (by kernel_rfl) hc))) (fun _=>?_))
  exact af (Nh T hrec n) (fun b m hb=>ih _ _ (h.cat hb.ql))
theorem CX (n:Nat):Ret (dZ S F rec d n) fun b m=>QB S n b m:=by
 unfold dZ
 refine au (fun h=>?_) (fun _=>af (gY (by decide) n) (fun x m hx=>ai (jw (by decide) hx)))
 exact af (JI T hrec (n+1) F [] (n+1) (QL.nil _)) (fun l m hl=>ai (eG (by decide) ((bI T (by kernel_rfl) h).ql hl)))
theorem Ip (p:Nat):∀ (f:Nat) (b:Pb) (n:Nat),QB S p b n→Ret (iQ S rec d p f b n) fun b m=>QB S p b m:=by
 intro f
 induction f with
 | zero=>intro b n _; exact bT
 | succ f ih =>
  intro b n h
  unfold iQ
  refine au (fun hc=>?_) (fun _=>ai h)
  refine af (dF T (by kernel_rfl) (n+1)) (fun _ m h1=>?_)
  refine af (lL T m) (fun p m2 hp=>?_)
  refine af (dF T (by kernel_rfl) m2) (fun _ m3 h3=>?_)
  exact af (hrec .ty m3 trivial) (fun c m4 hb=>ih _ _ (Me (l:=[b]) (r:=[c]) (by decide) (h.ql.skip ((bI T (by kernel_rfl) hc).cat h1)) hp (h3.ql hb.ql)))
theorem Pe (n:Nat):Ret (nS S F rec d n) fun b m=>QB S n b m:=by
 unfold nS
 exact af (CX T hrec n) (fun b m hb=>Ip T hrec n F b m hb)
theorem CY (n:Nat):Ret (dY S F rec d n) fun b m=>QB S n b m:=by
 unfold dY
 refine au (fun h=>?_) (fun _=>au (fun h=>?_) (fun _=>af (pJ T (by decide) n) (fun p m hp=>ai (jw (by decide) hp))))
 ·refine af (vM T hrec 1 (n+1)) (fun l m hl=>?_)
  exact af (dF T (by kernel_rfl) m) (fun _ m2 h2=>ai (eG (by decide) ((bI T (by kernel_rfl) h).ql (hl.skip h2))))
 ·simp only [Bool.and_eq_true,beq_iff_eq] at h
  have h1:QN S n [n] (n+1):=⟨fun x hx=>by have:x=n:=(by simpa using hx); omega,vJ (by unfold Src.nm; rw [h.1]; rfl)⟩
  refine af (hrec .str (n+2) trivial) (fun b m hb=>?_)
  exact af (dF T (by kernel_rfl) m) (fun _ m2 h2=>ai (jc (by decide) h1 ((bI T (by kernel_rfl) h.2).ql (hb.ql.skip h2))))
theorem LJ (p:Nat):∀ (f:Nat) (b:Pb) (n:Nat),QB S p b n→Ret (kE S rec d p f b n) fun b m=>QB S p b m:=by
 intro f
 induction f with
 | zero=>intro b n _; exact bT
 | succ f ih =>
  intro b n h
  unfold kE
  refine au (fun _=>ai h) (fun hc=>?_)
  exact af (hrec .sig (n+1) trivial) (fun s m hs=>ih _ _ (QB.marked (eG (by decide) (h.ql.cat ((DD T n hc).ql hs.ql)))))
theorem Qa (n:Nat):Ret (nJ S F rec d n) fun b m=>QB S n b m:=by
 unfold nJ
 exact af (CY T hrec n) (fun b m hb=>LJ T hrec n F b m hb)
theorem Ce (n:Nat):Ret (jA S rec d n) fun l m=>QL S n l.2 m:=by
 unfold jA
 refine af (P:=fun l m=>QL S n l m) (au (fun _=>ai (QL.nil n)) (fun hc=>?_)) (fun l m hl=>?_)
 ·exact af (hrec .sig (n+1) trivial) (fun s m hs=>ai ((DD T n hc).ql hs.ql))
 ·refine af (dF T (by kernel_rfl) m) (fun _ m2 h2=>?_)
  exact af (hrec .str m2 trivial) (fun b m3 hb=>ai (hl.cat (h2.ql hb.ql)))
theorem yC {fr n:Nat} (hs:iP S fr n):Ret (dh S rec d fr n) fun b m=>QB S fr b m:=by
 unfold dh
 refine af (gY (by decide) n) (fun x m hx=>?_)
 exact af (Ce T hrec m) (fun l m2 hl=>ai (QB.marked (jc (by decide) (hs.qn hx) hl)))
theorem Dt {fr n:Nat} (hs:iP S fr n):Ret (ed S rec d fr n) fun b m=>QB S fr b m:=by
 unfold ed
 refine af (gY (by decide) n) (fun x m hx=>?_)
 refine af (dF T (by kernel_rfl) m) (fun _ m2 h2=>?_)
 refine af (gY (by decide) m2) (fun y m3 hy=>?_)
 refine af (dF T (by kernel_rfl) m3) (fun _ m4 h4=>?_)
 refine af (hrec .sig m4 trivial) (fun g m5 hg=>?_)
 refine af (dF T (by kernel_rfl) m5) (fun _ m6 h6=>?_)
 exact af (Ce T hrec m6) (fun l m7 hl=>ai (QB.marked (jc (ns:=[x]++[y]) (by decide) (hs.qn (hx.cat (h2.qn hy))) (h4.ql (hg.ql.cat (h6.ql hl))))))
theorem O6 (p:Nat):∀ (f:Nat) (acc:List Pb) (n:Nat),QL S p acc n→Ret (oW S F rec d f acc n) fun l m=>QL S p l m:=by
 intro f
 induction f with
 | zero=>intro acc n _; exact bT
 | succ f ih =>
  intro acc n h
  unfold oW
  exact au (fun _=>af (jV T hrec n) (fun b m hb=>ih _ _ (h.cat hb.ql))) (fun _=>ai h)
theorem AA (n:Nat):Ret (dm S F rec d n) fun b m=>QB S n b m:=by
 unfold dm
 refine af (vO T n) (fun x m hx=>?_)
 refine af (jV T hrec m) (fun b m2 hb=>?_)
 refine af (O6 T hrec m F [b] m2 hb.ql) (fun l m3 hl=>?_)
 refine af (dF T (by kernel_rfl) m3) (fun _ m4 h4=>?_)
 exact af (hrec .exp m4 trivial) (fun e m5 he=>ai (jc (by decide) hx (hl.cat (h4.ql he.ql))))
theorem IM {fr n:Nat} (hs:iP S fr n) (a:Nat):Ret (iF S F rec d fr a n) fun b m=>QB S fr b m:=by
 unfold iF
 refine af (qN T hrec a n) (fun x m hx=>?_)
 refine af (dF T (by kernel_rfl) m) (fun _ m2 h2=>?_)
 refine af (qN T hrec a m2) (fun y m3 hy=>?_)
 exact af (dF T (by kernel_rfl) m3) (fun _ m4 h4=>ai (eG (by decide) ((hs.ql hx.ql).cat (h2.ql (hy.ql.skip h4)))))
theorem Pv (a n:Nat) (hl:declares S a n=true):Ret (nR S F rec d a n) fun b m=>QB S n b m:=by
 unfold nR
 refine au (fun h=>?_) (fun q1=>au (fun h=>?_) (fun q2=>au (fun h=>?_) (fun q3=>au (fun h=>?_) (fun q4=>au (fun h=>?_) (fun q5=>au (fun h=>?_) (fun q6=>au (fun h=>?_) (fun q7=>au (fun h=>?_) (fun q8=>?_))))))))
 ·refine af (hrec .pat (n+1) trivial) (fun p m hp=>?_)
  refine af (dF T (by kernel_rfl) m) (fun _ m2 h2=>?_)
  exact af (hrec .exp m2 trivial) (fun e m3 he=>ai (eG (by decide) (((bI T (by kernel_rfl) h).ql hp.ql).cat (h2.ql he.ql))))
 ·exact af (nT T F (by kernel_rfl) (AA T hrec) (n+1)) (fun l m hl=>ai (eG (by decide) ((bI T (by kernel_rfl) h).ql hl)))
 ·refine af (nY T (n+1)) (fun x m hx=>?_)
  refine af (dF T (by kernel_rfl) m) (fun _ m2 h2=>?_)
  exact af (hrec .ty m2 trivial) (fun b m3 hb=>ai (jc (by decide) ((bI T (by kernel_rfl) h).qn hx) (h2.ql hb.ql)))
 ·exact qA T hrec (bI T (by kernel_rfl) h)
 ·exact yC T hrec (bI T (by kernel_rfl) h)
 ·refine af (gY (by decide) (n+1)) (fun x m hx=>?_)
  refine af (dF T (by kernel_rfl) m) (fun _ m2 h2=>?_)
  exact af (hrec .sig m2 trivial) (fun b m3 hb=>ai (jc (by decide) ((bI T (by kernel_rfl) h).qn hx) (h2.ql hb.ql)))
 ·exact Dt T hrec (bI T (by kernel_rfl) h)
 ·exact af (pJ T (by decide) (n+1)) (fun p m hp=>ai (jw (by decide) ((bI T (by kernel_rfl) h).qn hp)))
 ·refine IM T hrec (bI T (t:=[108,111,99,97,108]) (by kernel_rfl) ?_) a
  unfold declares at hl
  simp only [q1,q2,q3,q4,q5,q6,q7,q8,Bool.or_self,Bool.false_or,cond_false] at hl
  exact hl
end
theorem LX:∀ (f:Nat) (nt:Nt) (d n:Nat),S.may nt n→Ret (parts S f nt d n) fun b m=>QB S n b m:=by
 intro f
 induction f with
 | zero=>intro nt d n _; exact bT
 | succ f ih =>
  intro nt d n hm
  unfold parts
  refine au (fun _=>xG) (fun _=>?_)
  have hrec:∀ nt k,S.may nt k→Ret (parts S f nt (d+1) k) fun b m=>QB S k b m:=fun nt k hk=>ih nt (d+1) k hk
  cases nt with
  | exp=>exact PS T hrec n
  | pat=>exact Qn T hrec n
  | ty=>exact TT T hrec n
  | sig=>exact Pe T hrec n
  | str=>exact Qa T hrec n
  | dec a=>exact Pv T hrec a n hm
theorem LY (F:Nat):Ret (jm S F 0) fun b m=>QB S 0 b m:=by
 unfold jm
 exact af (vM T (F:=F) (rec:=parts S F) (d:=0) (fun nt k hk=>LX T F nt 0 k hk) 2 0) (fun l m hl=>ai (eG (by decide) hl))
end
mutual
def Pb.wt:Pb→Nat
 | .mk _ _ _ _ ns ks=>1+ns.length+wtL ks
def wtL:List Pb→Nat
 | []=>0
 | b :: r=>b.wt+wtL r
end
theorem gu (a b:List Pb):wtL (a++b)=wtL a+wtL b:=by
 induction a with
 | nil=>simp [wtL]
 | cons y r ih=>simp [wtL,ih]; omega
theorem aZ (k:Int) (f t:Nat) (ns:List Nat) (l:List Pb):(node k f t ns l).wt=1+ns.length+wtL l:=by
 simp [node,Pb.wt]
theorem uj (m:Int) (b:Pb):(marked m b).wt=b.wt:=by
 cases b; simp [marked,Pb.wt]
theorem sD {l:List Pb} {k:Int} {f t:Nat} {ns:List Nat} {n m:Nat} (h:wtL l+l.length+ns.length+3 * n≤3 * m) (h1:1≤l.length):(fO l k f t ns).wt+1+3 * n≤3 * m:=by
 unfold fO
 split
 ·simp [wtL] at h; omega
 ·next hne =>
  rw [aZ]
  match l,hne,h1 with
  | a :: b :: r,_,_=>simp only [List.length_cons] at h ⊢; omega
  | [a],hne,_=>exact absurd rfl (hne a)
section
variable {S:Src}
theorem dD {t:List UInt8} (n:Nat):Ret (S.need t n) fun _ m=>m=n+1:=by
 unfold Src.need
 exact au (fun h=>ai rfl) (fun _=>jC)
theorem fV {ks:List Int} (n:Nat):Ret (S.take ks n) fun x m=>m=n+1:=by
 unfold Src.take
 exact au (fun h=>ai rfl) (fun _=>jC)
theorem N7 {ks:List Int} (p:Nat):∀ (f:Nat) (acc:List Nat) (n:Nat),1≤acc.length→acc.length+p≤n→Ret (S.pathL ks f acc n) fun l m=>1≤l.length∧l.length+p≤m:=by
 intro f
 induction f with
 | zero=>intro acc n _ _; exact bT
 | succ f ih =>
  intro acc n h0 h
  unfold Src.pathL
  refine au (fun hc=>?_) (fun _=>ai ⟨h0,h⟩)
  exact af (fV (n+1)) (fun x m hx=>ih _ _ (by simp) (by simp; omega))
theorem qc {ks:List Int} (n:Nat):Ret (S.path ks n) fun l m=>1≤l.length∧l.length+n≤m:=by
 unfold Src.path
 exact af (fV n) (fun x m hx=>N7 n _ _ _ (by simp) (by simp; omega))
theorem lQ (n:Nat):Ret (S.typePath n) fun l m=>1≤l.length∧l.length+n≤m:=by
 unfold Src.typePath
 exact af (qc n) (fun p m hp=>au (fun _=>ai hp) (fun _=>jC))
theorem xN (n:Nat):Ret (S.value n) fun x m=>n+1≤m:=by
 unfold Src.value
 refine au (fun h=>?_) (fun _=>(fV n).mono fun x m hx=>by omega)
 exact (fV (n+1)).mono fun x m hx=>by omega
theorem Qp {mark:List UInt8} {read:Nat→Out Pb} (hr:∀ k,Ret (read k) fun b m=>b.wt+1+3 * k≤3 * m) (p:Nat):∀ (f:Nat) (acc:List Pb) (n:Nat),1≤acc.length→wtL acc+acc.length+3 * p≤3 * n→Ret (lI S mark read f acc n) fun l m=>1≤l.length∧wtL l+l.length+3 * p≤3 * m:=by
 intro f
 induction f with
 | zero=>intro acc n _ _; exact bT
 | succ f ih =>
  intro acc n h0 h
  unfold lI
  refine au (fun hc=>?_) (fun _=>ai ⟨h0,h⟩)
  exact af (hr (n+1)) (fun b m hb=>ih _ _ (by simp) (by simp only [gu,wtL,List.length_append,List.length_singleton]; omega))
theorem oh (F:Nat) {mark:List UInt8} {read:Nat→Out Pb} (hr:∀ k,Ret (read k) fun b m=>b.wt+1+3 * k≤3 * m) (n:Nat):Ret (gV S F mark read n) fun l m=>1≤l.length∧wtL l+l.length+3 * n≤3 * m:=by
 unfold gV
 exact af (hr n) (fun b m hb=>Qp hr n F [b] m (by simp) (by simp [wtL]; omega))
section
variable {F:Nat} {rec:Nt→Nat→Nat→Out Pb} {d:Nat} (hrec:∀ nt k,S.may nt k→Ret (rec nt d k) fun b m=>b.wt+1+3 * k≤3 * m)
include hrec
theorem zU (n:Nat):Ret (dH S F rec d n) fun b m=>b.wt+1+3 * n≤3 * m:=by
 unfold dH
 refine au (fun h=>ai (by simp [aZ,wtL]; omega)) (fun _=>au (fun h=>?_) (fun _=>?_))
 ·refine af (oh F (fun k=>hrec .ty k trivial) (n+1)) (fun l m hl=>?_)
  refine af (dD m) (fun _ m2 h2=>?_)
  unfold qy
  split
  ·exact ai (by simp only [wtL,List.length_singleton] at hl; omega)
  ·exact af (lQ m2) (fun p m3 hp=>ai (by rw [aZ]; omega))
 ·exact af (lQ n) (fun p m3 hp=>ai (by simp only [aZ,wtL]; omega))
theorem BG (n:Nat):∀ (f:Nat) (b:Pb) (m:Nat),b.wt+1+3 * n≤3 * m→Ret (dJ S n f b m) fun b m=>b.wt+1+3 * n≤3 * m:=by
 have _:=hrec
 intro f
 induction f with
 | zero=>intro b m _; exact bT
 | succ f ih =>
  intro b m h
  unfold dJ
  exact au (fun _=>af (lQ m) (fun p m1 hp=>ih _ _ (by simp only [aZ,wtL]; omega))) (fun _=>ai h)
theorem Dc (n:Nat):Ret (dA S F rec d n) fun b m=>b.wt+1+3 * n≤3 * m:=by
 unfold dA
 exact af (zU hrec n) (fun b m hb=>BG hrec n F b m hb)
theorem Dw (n:Nat):Ret (dX S F rec d n) fun b m=>b.wt+1+3 * n≤3 * m:=by
 unfold dX
 exact af (oh F (Dc hrec) n) (fun l m hl=>ai (sD (by simpa using hl.2) hl.1))
theorem TD (n:Nat):Ret (tyO S F rec d n) fun b m=>b.wt+1+3 * n≤3 * m:=by
 unfold tyO
 refine af (Dw hrec n) (fun b m hb=>au (fun h=>?_) (fun _=>ai hb))
 exact af (hrec .ty (m+1) trivial) (fun c m2 hc=>ai (by simp only [aZ,wtL,List.length_nil]; omega))
omit hrec in
theorem IK {fr n:Nat} (hs:fr+1≤n) {member:Nat→Out Pb} (hm:∀ k,Ret (member k) fun b m=>b.wt+1+3 * k≤3 * m):Ret (iE S F fr member n) fun b m=>b.wt+1+3 * fr≤3 * m:=by
 unfold iE
 refine au (fun h=>ai (by simp only [aZ,wtL,List.length_nil]; omega)) (fun _=>?_)
 refine af (oh F hm n) (fun l m hl=>?_)
 exact af (dD m) (fun _ m2 h2=>ai (sD (by simp only [List.length_nil]; omega) hl.1))
omit hrec in
theorem yJ {named:Int} {member:Nat→Out Pb} (hm:∀ k,Ret (member k) fun b m=>b.wt+1+3 * k≤3 * m) (n:Nat):Ret (plainO S F named member n) fun b m=>b.wt+1+3 * n≤3 * m:=by
 unfold plainO
 refine au (fun h=>ai (by simp only [aZ,wtL,List.length_nil]; omega)) (fun _=>au (fun h=>ai (by simp only [aZ,wtL,List.length_nil]; omega)) (fun _=>au (fun h=>?_) (fun _=>?_)))
 ·exact IK (by omega) hm
 ·exact af (xN n) (fun x m hx=>ai (by simp only [aZ,wtL,List.length_singleton]; omega))
theorem jW (n:Nat):Ret (bV S F rec d n) fun b m=>b.wt+1+3 * n≤3 * m:=by
 unfold bV
 refine au (fun h=>ai (by simp only [aZ,wtL,List.length_nil]; omega)) (fun _=>au (fun _=>?_) (fun _=>yJ (fun k=>hrec .pat k trivial) n))
 exact af (qc n) (fun p m hp=>ai (by simp only [aZ,wtL]; omega))
theorem Qq (n:Nat):Ret (ou S F rec d n) fun b m=>b.wt+1+3 * n≤3 * m:=by
 unfold ou
 refine au (fun h=>?_) (fun _=>au (fun _=>?_) (fun _=>jW hrec n))
 ·exact af (hrec .pat (n+2) trivial) (fun b m hb=>ai (by simp only [aZ,wtL,List.length_singleton]; omega))
 ·refine af (qc n) (fun p m hp=>au (fun _=>?_) (fun _=>ai (by simp only [aZ,wtL]; omega)))
  exact af (jW hrec m) (fun b m2 hb=>ai (by simp only [aZ,wtL]; omega))
theorem Oe (a p:Nat):∀ (f:Nat) (acc:List Pb) (n:Nat),wtL acc+acc.length+3 * p≤3 * n→Ret (jI S rec d a f acc n) fun l m=>wtL l+l.length+3 * p≤3 * m:=by
 intro f
 induction f with
 | zero=>intro acc n _; exact bT
 | succ f ih =>
  intro acc n h
  unfold jI
  refine au (fun hc=>ih _ _ (by omega)) (fun _=>au (fun hd=>?_) (fun _=>ai h))
  exact af (hrec (.dec a) n hd) (fun b m hb=>ih _ _ (by simp only [gu,wtL,List.length_append,List.length_singleton]; omega))
theorem xn (a n:Nat):Ret (iw S F rec d a n) fun l m=>wtL l+l.length+3 * n≤3 * m:=Oe hrec a n F [] n (by simp [wtL])
theorem qW (a n:Nat):Ret (fE S F rec d a n) fun b m=>b.wt+3 * n≤3 * m+1:=by
 unfold fE
 exact af (xn hrec a n) (fun l m hl=>ai (by simp only [aZ,List.length_nil]; omega))
theorem Eb (n:Nat):Ret (iJ S F rec d n) fun b m=>b.wt+1+3 * n≤3 * m:=by
 unfold iJ
 refine au (fun _=>?_) (fun _=>au (fun h=>?_) (fun _=>yJ (fun k=>hrec .exp k trivial) n))
 ·exact af (qc n) (fun p m hp=>au (fun _=>ai (by simp only [aZ,wtL]; omega)) (fun _=>ai (by simp only [aZ,wtL]; omega)))
 ·refine af (qW hrec 0 (n+1)) (fun ds m hd=>?_)
  refine af (dD m) (fun _ m2 h2=>?_)
  refine af (hrec .exp m2 trivial) (fun e m3 he=>?_)
  exact af (dD m3) (fun _ m4 h4=>ai (by simp only [aZ,wtL,List.length_nil]; omega))
theorem MX (p:Nat):∀ (f:Nat) (acc:List Pb) (n:Nat),1≤acc.length→wtL acc+acc.length+3 * p≤3 * n→Ret (je S F rec d f acc n) fun l m=>1≤l.length∧wtL l+l.length+3 * p≤3 * m:=by
 intro f
 induction f with
 | zero=>intro acc n _ _; exact bT
 | succ f ih =>
  intro acc n h0 h
  unfold je
  exact au (fun _=>af (Eb hrec n) (fun b m hb=>ih _ _ (by simp) (by simp only [gu,wtL,List.length_append,List.length_singleton]; omega))) (fun _=>ai ⟨h0,h⟩)
theorem DY (n:Nat):Ret (jH S F rec d n) fun b m=>b.wt+1+3 * n≤3 * m:=by
 unfold jH
 refine af (Eb hrec n) (fun b m hb=>?_)
 exact af (MX hrec n F [b] m (by simp) (by simp [wtL]; omega)) (fun l m2 hl=>ai (sD (by simpa using hl.2) hl.1))
theorem IC (p:Nat):∀ (f:Nat) (sg:List Nat) (acc:List Pb) (n:Nat),1≤acc.length→wtL acc+acc.length+sg.length+3 * p≤3 * n→Ret (iY S F rec d f sg acc n) fun l m=>1≤l.2.length∧wtL l.2+l.2.length+l.1.length+3 * p≤3 * m:=by
 intro f
 induction f with
 | zero=>intro sg acc n _ _; exact bT
 | succ f ih =>
  intro sg acc n h0 h
  unfold iY
  refine au (fun _=>?_) (fun _=>ai ⟨h0,h⟩)
  exact af (fV n) (fun x m hx=>af (DY hrec m) (fun b m2 hb=>ih _ _ _ (by simp) (by simp only [gu,wtL,List.length_append,List.length_singleton]; omega)))
theorem II (n:Nat):Ret (gK S F rec d n) fun b m=>b.wt+1+3 * n≤3 * m:=by
 unfold gK
 refine af (DY hrec n) (fun b m hb=>?_)
 exact af (IC hrec n F [] [b] m (by simp) (by simp [wtL]; omega)) (fun l m2 hl=>ai (sD hl.2 hl.1))
theorem xR {k:Int} {fr n:Nat} (hs:fr≤n):Ret (fF S rec d k fr n) fun b m=>b.wt+1+3 * fr≤3 * m:=by
 unfold fF
 refine af (hrec .pat n trivial) (fun p m hp=>?_)
 refine af (dD m) (fun _ m2 h2=>?_)
 exact af (hrec .exp m2 trivial) (fun e m3 he=>ai (by simp only [aZ,wtL,List.length_nil]; omega))
theorem QC (n:Nat):Ret (yl S rec d n) fun b m=>b.wt+1+3 * n≤3 * m:=xR hrec (Nat.le_refl _)
theorem PW (n:Nat):Ret (ny S F rec d n) fun b m=>b.wt+1+3 * n≤3 * m:=by
 unfold ny
 refine au (fun h=>?_) (fun _=>au (fun h=>?_) (fun _=>au (fun h=>?_) (fun _=>II hrec n)))
 ·refine af (hrec .exp (n+1) trivial) (fun a m ha=>?_)
  refine af (dD m) (fun _ m2 h2=>?_)
  refine af (hrec .exp m2 trivial) (fun b m3 hb=>?_)
  refine af (dD m3) (fun _ m4 h4=>?_)
  exact af (hrec .exp m4 trivial) (fun c m5 hc=>ai (by simp only [aZ,wtL,List.length_nil]; omega))
 ·refine af (hrec .exp (n+1) trivial) (fun a m ha=>?_)
  refine af (dD m) (fun _ m2 h2=>?_)
  exact af (oh F (QC hrec) m2) (fun l m3 hl=>ai (by simp only [aZ,gu,wtL,List.length_nil]; omega))
 ·exact xR hrec (by omega)
omit hrec in
theorem Oh:∀ (f n:Nat),Ret (jB S f n) fun _ m=>n≤m:=by
 intro f
 induction f with
 | zero=>intro n; exact bT
 | succ f ih =>
  intro n
  unfold jB
  exact au (fun hc=>af (fV (n+1)) (fun _ m hm=>(ih m).mono fun _ m2 h=>by omega)) (fun _=>ai (Nat.le_refl _))
omit hrec in
theorem nP (n:Nat):Ret (bW S F n) fun x m=>n+1≤m:=by
 unfold bW
 refine au (fun h=>?_) (fun _=>au (fun h=>?_) (fun _=>(fV n).mono fun x m hx=>by omega))
 ·exact (fV (n+1)).mono fun x m hx=>by omega
 ·refine af (fV (n+1)) (fun _ m hm=>?_)
  refine af (Oh F m) (fun _ m2 h2=>?_)
  refine af (dD m2) (fun _ m3 h3=>?_)
  exact (fV m3).mono fun x m hx=>by omega
theorem Pm (n:Nat):Ret (lZ S rec d n) fun b m=>b.wt+1+3 * n≤3 * m:=by
 unfold lZ
 refine af (fV n) (fun x m hx=>au (fun h=>?_) (fun _=>ai (by simp only [aZ,wtL,List.length_singleton]; omega)))
 exact af (hrec .ty (m+1) trivial) (fun b m2 hb=>ai (by simp only [aZ,wtL,List.length_singleton]; omega))
theorem JL (n:Nat):Ret (gy S F rec d n) fun b m=>b.wt+1+3 * n≤3 * m:=by
 unfold gy
 refine af (nP n) (fun x m hx=>?_)
 refine af (dD m) (fun _ m2 h2=>?_)
 exact af (oh F (Pm hrec) m2) (fun l m3 hl=>ai (by simp only [aZ,List.length_singleton]; omega))
theorem qC {fr n:Nat} (hs:fr+1≤n):Ret (bZ S F rec d fr n) fun b m=>b.wt+1+3 * fr≤3 * m:=by
 unfold bZ
 exact af (oh F (JL hrec) n) (fun l m hl=>ai (by simp only [aZ,List.length_nil]; omega))
theorem NI (n:Nat):Ret (jF S F rec d n) fun b m=>b.wt+1+3 * n≤3 * m:=by
 unfold jF
 refine au (fun h=>?_) (fun _=>au (fun h=>?_) (fun _=>au (fun h=>?_) (fun _=>au (fun h=>?_) (fun _=>?_))))
 ·refine af (xN (n+1)) (fun x m hx=>?_)
  refine af (dD m) (fun _ m2 h2=>?_)
  exact af (hrec .ty m2 trivial) (fun b m3 hb=>ai (by simp only [aZ,wtL,List.length_singleton]; omega))
 ·refine af (nP (n+1)) (fun x m hx=>au (fun h2=>?_) (fun _=>ai (by simp only [aZ,wtL,List.length_singleton]; omega)))
  exact af (hrec .ty (m+1) trivial) (fun b m3 hb=>ai (by simp only [aZ,wtL,List.length_singleton]; omega))
 ·exact qC hrec (by omega)
 ·refine af (fV (n+1)) (fun x m hx=>?_)
  refine af (dD m) (fun _ m2 h2=>?_)
  exact af (hrec .sig m2 trivial) (fun b m3 hb=>ai (by simp only [aZ,wtL,List.length_singleton]; omega))
 ·refine af (dD n) (fun _ m2 h2=>?_)
  exact af (hrec .sig m2 trivial) (fun b m3 hb=>ai (by simp only [aZ,wtL,List.length_nil]; omega))
theorem IZ (p:Nat):∀ (f:Nat) (acc:List Pb) (n:Nat),wtL acc+acc.length+3 * p≤3 * n→Ret (iD S F rec d f acc n) fun l m=>wtL l+l.length+3 * p≤3 * m:=by
 intro f
 induction f with
 | zero=>intro acc n _; exact bT
 | succ f ih =>
  intro acc n h
  unfold iD
  refine au (fun hc=>ai (by omega)) (fun _=>au (fun hc=>ih _ _ (by omega)) (fun _=>?_))
  exact af (NI hrec n) (fun b m hb=>ih _ _ (by simp only [gu,wtL,List.length_append,List.length_singleton]; omega))
theorem Ei (n:Nat):Ret (dZ S F rec d n) fun b m=>b.wt+1+3 * n≤3 * m:=by
 unfold dZ
 refine au (fun h=>?_) (fun _=>af (fV n) (fun x m hx=>ai (by simp only [aZ,wtL,List.length_singleton]; omega)))
 exact af (IZ hrec (n+1) F [] (n+1) (by simp [wtL])) (fun l m hl=>ai (by simp only [aZ,List.length_nil]; omega))
theorem Jb (p:Nat):∀ (f:Nat) (b:Pb) (n:Nat),b.wt+1+3 * p≤3 * n→Ret (iQ S rec d p f b n) fun b m=>b.wt+1+3 * p≤3 * m:=by
 intro f
 induction f with
 | zero=>intro b n _; exact bT
 | succ f ih =>
  intro b n h
  unfold iQ
  refine au (fun hc=>?_) (fun _=>ai h)
  refine af (dD (n+1)) (fun _ m h1=>?_)
  refine af (lQ m) (fun p m2 hp=>?_)
  refine af (dD m2) (fun _ m3 h3=>?_)
  exact af (hrec .ty m3 trivial) (fun c m4 hb=>ih _ _ (by simp only [aZ,wtL]; omega))
theorem Qs (n:Nat):Ret (nS S F rec d n) fun b m=>b.wt+1+3 * n≤3 * m:=by
 unfold nS
 exact af (Ei hrec n) (fun b m hb=>Jb hrec n F b m hb)
theorem Ej (n:Nat):Ret (dY S F rec d n) fun b m=>b.wt+1+3 * n≤3 * m:=by
 unfold dY
 refine au (fun h=>?_) (fun _=>au (fun h=>?_) (fun _=>af (qc n) (fun p m hp=>ai (by simp only [aZ,wtL]; omega))))
 ·refine af (xn hrec 1 (n+1)) (fun l m hl=>?_)
  exact af (dD m) (fun _ m2 h2=>ai (by simp only [aZ,List.length_nil]; omega))
 ·refine af (hrec .str (n+2) trivial) (fun b m hb=>?_)
  exact af (dD m) (fun _ m2 h2=>ai (by simp only [aZ,wtL,List.length_singleton]; omega))
theorem LZ (p:Nat):∀ (f:Nat) (b:Pb) (n:Nat),b.wt+1+3 * p≤3 * n→Ret (kE S rec d p f b n) fun b m=>b.wt+1+3 * p≤3 * m:=by
 intro f
 induction f with
 | zero=>intro b n _; exact bT
 | succ f ih =>
  intro b n h
  unfold kE
  refine au (fun _=>ai h) (fun hc=>?_)
  exact af (hrec .sig (n+1) trivial) (fun s m hs=>ih _ _ (by simp only [uj,aZ,wtL,List.length_nil]; omega))
theorem PU (n:Nat):Ret (nJ S F rec d n) fun b m=>b.wt+1+3 * n≤3 * m:=by
 unfold nJ
 exact af (Ej hrec n) (fun b m hb=>LZ hrec n F b m hb)
theorem DN (n:Nat):Ret (jA S rec d n) fun l m=>wtL l.2+l.2.length+3 * n≤3 * m:=by
 unfold jA
 refine af (P:=fun l m=>wtL l+l.length+3 * n≤3 * m) (au (fun _=>ai (by simp [wtL])) (fun hc=>?_)) (fun l m hl=>?_)
 ·exact af (hrec .sig (n+1) trivial) (fun s m hs=>ai (by simp only [wtL,List.length_singleton]; omega))
 ·refine af (dD m) (fun _ m2 h2=>?_)
  exact af (hrec .str m2 trivial) (fun b m3 hb=>ai (by simp only [gu,wtL,List.length_append,List.length_singleton]; omega))
theorem yA {fr n:Nat} (hs:fr+1≤n):Ret (dh S rec d fr n) fun b m=>b.wt+1+3 * fr≤3 * m:=by
 unfold dh
 refine af (fV n) (fun x m hx=>?_)
 exact af (DN hrec m) (fun l m2 hl=>ai (by simp only [uj,aZ,List.length_singleton]; omega))
theorem Be {fr n:Nat} (hs:fr+1≤n):Ret (ed S rec d fr n) fun b m=>b.wt+1+3 * fr≤3 * m:=by
 unfold ed
 refine af (fV n) (fun x m hx=>?_)
 refine af (dD m) (fun _ m2 h2=>?_)
 refine af (fV m2) (fun y m3 hy=>?_)
 refine af (dD m3) (fun _ m4 h4=>?_)
 refine af (hrec .sig m4 trivial) (fun g m5 hg=>?_)
 refine af (dD m5) (fun _ m6 h6=>?_)
 exact af (DN hrec m6) (fun l m7 hl=>ai (by simp only [uj,aZ,gu,wtL,List.length_cons,List.length_nil]; omega))
theorem Qi (p:Nat):∀ (f:Nat) (acc:List Pb) (n:Nat),wtL acc+acc.length+3 * p≤3 * n→Ret (oW S F rec d f acc n) fun l m=>wtL l+l.length+3 * p≤3 * m:=by
 intro f
 induction f with
 | zero=>intro acc n _; exact bT
 | succ f ih =>
  intro acc n h
  unfold oW
  exact au (fun _=>af (jW hrec n) (fun b m hb=>ih _ _ (by simp only [gu,wtL,List.length_append,List.length_singleton]; omega))) (fun _=>ai h)
theorem zM (n:Nat):Ret (dm S F rec d n) fun b m=>b.wt+1+3 * n≤3 * m:=by
 unfold dm
 refine af (xN n) (fun x m hx=>?_)
 refine af (jW hrec m) (fun b m2 hb=>?_)
 refine af (Qi hrec m F [b] m2 (by simp [wtL]; omega)) (fun l m3 hl=>?_)
 refine af (dD m3) (fun _ m4 h4=>?_)
 exact af (hrec .exp m4 trivial) (fun e m5 he=>ai (by simp only [aZ,gu,wtL,List.length_singleton]; omega))
theorem Ij {fr n:Nat} (hs:fr+1≤n) (a:Nat):Ret (iF S F rec d fr a n) fun b m=>b.wt+1+3 * fr≤3 * m:=by
 unfold iF
 refine af (qW hrec a n) (fun x m hx=>?_)
 refine af (dD m) (fun _ m2 h2=>?_)
 refine af (qW hrec a m2) (fun y m3 hy=>?_)
 exact af (dD m3) (fun _ m4 h4=>ai (by simp only [aZ,wtL,List.length_nil]; omega))
theorem Pj (a n:Nat):Ret (nR S F rec d a n) fun b m=>b.wt+1+3 * n≤3 * m:=by
 unfold nR
 refine au (fun h=>?_) (fun q1=>au (fun h=>?_) (fun q2=>au (fun h=>?_) (fun q3=>au (fun h=>?_) (fun q4=>au (fun h=>?_) (fun q5=>au (fun h=>?_) (fun q6=>au (fun h=>?_) (fun q7=>au (fun h=>?_) (fun q8=>?_))))))))
 ·refine af (hrec .pat (n+1) trivial) (fun p m hp=>?_)
  refine af (dD m) (fun _ m2 h2=>?_)
  exact af (hrec .exp m2 trivial) (fun e m3 he=>ai (by simp only [aZ,wtL,List.length_nil]; omega))
 ·exact af (oh F (zM hrec) (n+1)) (fun l m hl=>ai (by simp only [aZ,List.length_nil]; omega))
 ·refine af (nP (n+1)) (fun x m hx=>?_)
  refine af (dD m) (fun _ m2 h2=>?_)
  exact af (hrec .ty m2 trivial) (fun b m3 hb=>ai (by simp only [aZ,wtL,List.length_singleton]; omega))
 ·exact qC hrec (by omega)
 ·exact yA hrec (by omega)
 ·refine af (fV (n+1)) (fun x m hx=>?_)
  refine af (dD m) (fun _ m2 h2=>?_)
  exact af (hrec .sig m2 trivial) (fun b m3 hb=>ai (by simp only [aZ,wtL,List.length_singleton]; omega))
 ·exact Be hrec (by omega)
 ·exact af (qc (n+1)) (fun p m hp=>ai (by simp only [aZ,wtL]; omega))
 ·exact Ij hrec (by omega) a
end
theorem Nl:∀ (f:Nat) (nt:Nt) (d n:Nat),S.may nt n→Ret (parts S f nt d n) fun b m=>b.wt+1+3 * n≤3 * m:=by
 intro f
 induction f with
 | zero=>intro nt d n _; exact bT
 | succ f ih =>
  intro nt d n hm
  unfold parts
  refine au (fun _=>xG) (fun _=>?_)
  have hrec:∀ nt k,S.may nt k→Ret (parts S f nt (d+1) k) fun b m=>b.wt+1+3 * k≤3 * m:=fun nt k hk=>ih nt (d+1) k hk
  cases nt with
  | exp=>exact PW hrec n
  | pat=>exact Qq hrec n
  | ty=>exact TD hrec n
  | sig=>exact Qs hrec n
  | str=>exact PU hrec n
  | dec a=>exact Pj hrec a n
theorem MC (F:Nat):Ret (jm S F 0) fun b m=>b.wt≤3 * m+1:=by
 unfold jm
 exact af (xn (F:=F) (rec:=parts S F) (d:=0) (fun nt k hk=>Nl F nt 0 k hk) 2 0) (fun l m hl=>ai (by simp only [aZ,List.length_nil]; omega))
end
theorem ext_list (s:ByteArray) (a e:Nat):(s.extract a e).data.toList=(s.data.toList.take e).drop a:=by
 rw [ByteArray.data_extract,Array.toList_extract,List.extract_eq_take_drop,List.drop_take]
theorem zC {s t:ByteArray} (h:s.data.toList=t.data.toList):s=t:=by
 cases s; cases t; simp only at h; congr 1; exact Array.ext' h
theorem Ci (s:ByteArray) (l:List Tok):firstT s (dO gB l)=firstT s l:=by
 induction l with
 | nil=>rfl
 | cons x r ih =>
  simp only [dO,firstT]
  cases hs:gB x.k
  ·have:iI x=true:=by
    unfold iI
    cases hk:(x.k == 3)
    ·rfl
    ·rw [beq_iff_eq.1 hk] at hs; exact absurd hs (by decide)
   rw [this]; exact ih
  ·simp only [cond_true,firstT,ih]
theorem nC (s:ByteArray):fC s=firstT s (aN s):=by unfold fC aN; rw [Ci]
end Go.Proofs.YtmpmfamiegpmgaaGreatDoor
