/-
  The plain parser's branches are right, and each name in a text is one branch's, once.; How large the plain parser's branches are: a branch, all its parts and all their names are fewer than three for each token.; Pieces of texts; the first bad token by the words.
-/
import Derived.Test.YtmpmfamiegpmgaaGreatDoorFI
import Derived.Test.YtmpmfamiegpmgaaGreatDoorFJ
import Derived.Test.YtmpmfamiegpmgaaGreatDoorFS
namespace Go.Proofs.YtmpmfamiegpmgaaGreatDoor
open Go.RowKit
set_option maxRecDepth 20000
set_option linter.unusedVariables false
set_option linter.unusedSimpArgs false

def Pb.fr:Pb→Int | .mk _ _ f _ _ _=>f
def Pb.to:Pb→Int | .mk _ _ _ t _ _=>t
mutual
/-- How often a branch has a name. -/
def Pb.cnt (x:Int):Pb→Nat
 | .mk _ _ _ _ ns ks=>ns.count x+cntL x ks
def cntL (x:Int):List Pb→Nat
 | []=>0
 | b :: r=>b.cnt x+cntL x r
end
mutual
/-- A branch is right, and all of its parts have kinds. -/
def Pb.Rt:Pb→Prop
 | .mk k _ f t ns ks=>0 < k∧0≤f∧f≤t∧(∀ n ∈ ns,f≤n∧n < t)∧ChainP f t ks
def ChainP (f t:Int):List Pb→Prop
 | []=>f≤t
 | b :: r=>b.Rt∧f≤b.fr∧ChainP b.to t r
end
theorem cntL_append (x:Int) (a b:List Pb):cntL x (a++b)=cntL x a+cntL x b:=by
 induction a with
 | nil=>simp [cntL]
 | cons y r ih=>simp [cntL,ih]; omega
theorem Pb.Rt.le {b:Pb} (h:b.Rt):0≤b.fr∧b.fr≤b.to:=by
 cases b; simp only [Pb.Rt] at h; exact ⟨h.2.1,h.2.2.1⟩
theorem ChainP.le {f t:Int}:∀ {l:List Pb},ChainP f t l→f≤t:=by
 intro l
 induction l generalizing f with
 | nil=>intro h; exact h
 | cons b r ih=>intro h; simp only [ChainP] at h; have:=ih h.2.2; have:=h.1.le; omega
theorem ChainP.low {f f' t:Int} (hf:f'≤f):∀ {l:List Pb},ChainP f t l→ChainP f' t l:=by
 intro l h
 cases l with
 | nil=>simp only [ChainP] at h ⊢; omega
 | cons b r=>simp only [ChainP] at h ⊢; exact ⟨h.1,by omega,h.2.2⟩
theorem ChainP.cat {m t:Int}:∀ {f:Int} {l r:List Pb},ChainP f m l→ChainP m t r→ChainP f t (l++r):=by
 intro f l
 induction l generalizing f with
 | nil=>intro r h1 h2; simp only [ChainP] at h1; exact h2.low h1
 | cons b l ih=>intro r h1 h2; simp only [ChainP,List.cons_append] at h1 ⊢; exact ⟨h1.1,h1.2.1,ih h1.2.2 h2⟩
theorem ChainP.up {f t t':Int} {l:List Pb} (h:ChainP f t l) (ht:t≤t'):ChainP f t' l:=by
 have:=ChainP.cat (r:=[]) h (by simpa only [ChainP] using ht)
 simpa using this

/-- Is token n a name? -/
def Src.nm (S:Src) (n:Nat):Bool:=S.kd n == 6 || S.kd n == 7 || S.kd n == 9
/-- From n on up to m each name is counted, once; a * may be left out. -/
structure Cov (S:Src) (n m:Nat) (c:Int→Nat):Prop where
 le:n≤m
 one:∀ x,c x≤1
 inn:∀ x,0 < c x→(n:Int)≤x∧x < (m:Int)
 nm:∀ x:Nat,0 < c (x:Int)→S.nm x=true
 all:∀ x:Nat,n≤x→x < m→S.nm x=true→S.is x [42]=false→0 < c (x:Int)
abbrev Skip (S:Src) (n m:Nat):Prop:=Cov S n m fun _=>0
section
variable {S:Src}
theorem Cov.ext {n m:Nat} {c d:Int→Nat} (h:Cov S n m c) (e:∀ x,d x=c x):Cov S n m d:=by
 have:d=c:=funext e
 subst this; exact h
theorem Cov.add {n m k:Nat} {c d:Int→Nat} (h:Cov S n m c) (g:Cov S m k d):Cov S n k fun x=>c x+d x where
 le:=Nat.le_trans h.le g.le
 one x:=by
  rcases Nat.eq_zero_or_pos (c x) with hc | hc
  ·have:=g.one x; omega
  ·rcases Nat.eq_zero_or_pos (d x) with hd | hd
   ·have:=h.one x; omega
   ·have:=h.inn x hc; have:=g.inn x hd; omega
 inn x hx:=by
  have h1:=h.le; have h2:=g.le
  rcases Nat.eq_zero_or_pos (c x) with hc | hc
  ·have:=g.inn x (by omega); omega
  ·have:=h.inn x hc; omega
 nm x hx:=by
  rcases Nat.eq_zero_or_pos (c x) with hc | hc
  ·exact g.nm x (by omega)
  ·exact h.nm x hc
 all x h1 h2 h3 h4:=by
  rcases Nat.lt_or_ge x m with hx | hx
  ·have:=h.all x h1 hx h3 h4; omega
  ·have:=g.all x hx h2 h3 h4; omega
theorem Skip.nil (n:Nat):Skip S n n:=⟨Nat.le_refl _,fun _=>by omega,fun _ h=>by omega,fun _ h=>by omega,fun x h1 h2=>by omega⟩
theorem skip_one {n:Nat} (h:S.nm n=false∨S.is n [42]=true):Skip S n (n+1) :=
 ⟨by omega,fun _=>by omega,fun _ h=>by omega,fun _ h=>by omega,fun x h1 h2 h3 h4=>by
  have:x=n:=by omega
  subst this
  rcases h with h | h
  ·rw [h3] at h; cases h
  ·rw [h4] at h; cases h⟩
theorem Skip.cat {n m k:Nat} (h:Skip S n m) (g:Skip S m k):Skip S n k:=(h.add g).ext fun _=>rfl
theorem Cov.skip {n m k:Nat} {c:Int→Nat} (h:Cov S n m c) (g:Skip S m k):Cov S n k c:=(h.add g).ext fun _=>rfl
theorem Skip.then {n m k:Nat} {c:Int→Nat} (g:Skip S n m) (h:Cov S m k c):Cov S n k c:=(g.add h).ext fun x=>by simp

def cnN (l:List Nat) (x:Int):Nat:=(l.map fun y:Nat=>(y:Int)).count x
theorem cnN_nil (x:Int):cnN [] x=0:=rfl
theorem cnN_append (a b:List Nat) (x:Int):cnN (a++b) x=cnN a x+cnN b x:=by simp [cnN,List.count_append]
theorem name_one {n:Nat} (h:S.nm n=true):Cov S n (n+1) (cnN [n]):=by
 have e:∀ x:Int,cnN [n] x=if x=n then 1 else 0:=fun x=>by
  by_cases hx:x=(n:Int)
  ·subst hx; simp [cnN]
  ·simp only [cnN,List.map_cons,List.map_nil,hx,if_false]
   rw [List.count_cons_of_ne (fun e=>hx e.symm)]; rfl
 refine ⟨by omega,fun x=>by rw [e]; split <;> omega,fun x hx=>?_,fun x hx=>?_,fun x h1 h2 h3 _=>?_⟩
 ·rw [e] at hx; split at hx <;> omega
 ·rw [e] at hx
  split at hx
  ·have:x=n:=by omega
   subst this; exact h
  ·omega
 ·have:x=n:=by omega
  subst this
  rw [e,if_pos rfl]; omega

/-- What a call comes to, if it comes to something. -/
def Ret {α:Type} (o:Out α) (P:α→Nat→Prop):Prop:=∀ x m,o=.ok x m→P x m
theorem ret_bind {α β:Type} {o:Out α} {f:α→Nat→Out β} {P:α→Nat→Prop} {Q:β→Nat→Prop} (h:Ret o P) (hf:∀ x m,P x m→Ret (f x m) Q):Ret (o.bind f) Q:=by
 intro x m e
 cases o with
 | ok a n=>exact hf a n (h a n rfl) x m e
 | form n=>cases e
 | deep n=>cases e
 | dry=>cases e
theorem ret_ok {α:Type} {x:α} {m:Nat} {P:α→Nat→Prop} (h:P x m):Ret (.ok x m) P:=by
 intro y k e
 injection e with e1 e2
 subst e1 e2; exact h
theorem ret_form {α:Type} {n:Nat} {P:α→Nat→Prop}:Ret (.form n:Out α) P:=fun _ _ e=>by cases e
theorem ret_deep {α:Type} {n:Nat} {P:α→Nat→Prop}:Ret (.deep n:Out α) P:=fun _ _ e=>by cases e
theorem ret_dry {α:Type} {P:α→Nat→Prop}:Ret (.dry:Out α) P:=fun _ _ e=>by cases e
theorem ret_if {α:Type} {c:Bool} {a b:Out α} {P:α→Nat→Prop} (ha:c=true→Ret a P) (hb:c=false→Ret b P):Ret (bif c then a else b) P:=by
 cases c
 ·exact hb rfl
 ·exact ha rfl
theorem Ret.mono {α:Type} {o:Out α} {P Q:α→Nat→Prop} (h:Ret o P) (hq:∀ x m,P x m→Q x m):Ret o Q:=fun x m e=>hq x m (h x m e)

/-- A branch, branches, names from n on up to m. -/
structure QB (S:Src) (n:Nat) (b:Pb) (m:Nat):Prop where
 rt:b.Rt
 lo:(n:Int)≤b.fr
 hi:b.to≤(m:Int)
 cov:Cov S n m fun x=>b.cnt x
structure QL (S:Src) (n:Nat) (l:List Pb) (m:Nat):Prop where
 ch:ChainP n m l
 cov:Cov S n m fun x=>cntL x l
structure QN (S:Src) (n:Nat) (l:List Nat) (m:Nat):Prop where
 inn:∀ x ∈ l,n≤x∧x < m
 cov:Cov S n m (cnN l)
theorem QL.nil (n:Nat):QL S n [] n:=⟨by simp [ChainP],(Skip.nil n).ext fun _=>rfl⟩
theorem QL.skip {n m k:Nat} {l:List Pb} (h:QL S n l m) (g:Skip S m k):QL S n l k:=⟨h.ch.up (by have:=g.le; omega),h.cov.skip g⟩
theorem Skip.ql {n m k:Nat} {l:List Pb} (g:Skip S n m) (h:QL S m l k):QL S n l k:=⟨h.ch.low (by have:=g.le; omega),g.then h.cov⟩
theorem QL.cat {n m k:Nat} {l r:List Pb} (h:QL S n l m) (g:QL S m r k):QL S n (l++r) k:=⟨h.ch.cat g.ch,(h.cov.add g.cov).ext fun x=>cntL_append x l r⟩
theorem QB.ql {n m:Nat} {b:Pb} (h:QB S n b m):QL S n [b] m:=⟨by simp only [ChainP]; exact ⟨h.rt,h.lo,h.hi⟩,h.cov.ext fun x=>by simp [cntL]⟩
theorem QL.one {n m:Nat} {b:Pb} (h:QL S n [b] m):QB S n b m:=by
 have hc:=h.ch
 simp only [ChainP] at hc
 exact ⟨hc.1,hc.2.1,hc.2.2,h.cov.ext fun x=>by simp [cntL]⟩
theorem QB.skip {n m k:Nat} {b:Pb} (h:QB S n b m) (g:Skip S m k):QB S n b k:=(h.ql.skip g).one
theorem Skip.qb {n m k:Nat} {b:Pb} (g:Skip S n m) (h:QB S m b k):QB S n b k:=(g.ql h.ql).one
theorem QN.nil (n:Nat):QN S n [] n:=⟨fun x hx=>(by cases hx),(Skip.nil n).ext fun _=>rfl⟩
theorem QN.skip {n m k:Nat} {l:List Nat} (h:QN S n l m) (g:Skip S m k):QN S n l k:=⟨fun x hx=>by have:=h.inn x hx; have:=g.le; omega,h.cov.skip g⟩
theorem Skip.qn {n m k:Nat} {l:List Nat} (g:Skip S n m) (h:QN S m l k):QN S n l k:=⟨fun x hx=>by have:=h.inn x hx; have:=g.le; omega,g.then h.cov⟩
theorem QN.cat {n m k:Nat} {l r:List Nat} (h:QN S n l m) (g:QN S m r k):QN S n (l++r) k :=
 ⟨fun x hx=>by
  have h1:=h.cov.le; have h2:=g.cov.le
  rcases List.mem_append.1 hx with hx | hx
  ·have:=h.inn x hx; omega
  ·have:=g.inn x hx; omega,(h.cov.add g.cov).ext fun x=>cnN_append l r x⟩
/-- A branch of names and parts, in whichever order these stand. -/
theorem node_mix {k:Int} {n m:Nat} {ns:List Nat} {l:List Pb} {c:Int→Nat} (hk:0 < k) (hn:∀ x ∈ ns,n≤x∧x < m) (hl:ChainP n m l) (hc:Cov S n m c) (he:∀ x,cnN ns x+cntL x l=c x):QB S n (node k n m ns l) m:=by
 refine ⟨?_,?_,?_,hc.ext fun x=>?_⟩
 ·have:=hc.le
  simp only [node,Pb.Rt]
  refine ⟨hk,by omega,by omega,fun x hx=>?_,hl⟩
  obtain ⟨y,hy,rfl⟩:=List.mem_map.1 hx
  have:=hn y hy; omega
 ·simp [node,Pb.fr]
 ·simp [node,Pb.to]
 ·simp only [node,Pb.cnt]; exact he x
theorem node_ks {k:Int} {n m:Nat} {l:List Pb} (hk:0 < k) (h:QL S n l m):QB S n (node k n m [] l) m :=
 node_mix hk (fun x hx=>by cases hx) h.ch h.cov (fun x=>by simp [cnN_nil])
theorem node_ns {k:Int} {n m:Nat} {ns:List Nat} (hk:0 < k) (h:QN S n ns m):QB S n (node k n m ns []) m :=
 node_mix hk h.inn (by simp only [ChainP]; have:=h.cov.le; omega) h.cov (fun x=>by simp [cntL])
theorem node_nk {k:Int} {n j m:Nat} {ns:List Nat} {l:List Pb} (hk:0 < k) (h:QN S n ns j) (g:QL S j l m):QB S n (node k n m ns l) m :=
 node_mix hk (fun x hx=>by have:=h.inn x hx; have:=g.cov.le; omega) (g.ch.low (by have:=h.cov.le; omega)) (h.cov.add g.cov) (fun x=>rfl)
theorem node_kn {k:Int} {n j m:Nat} {ns:List Nat} {l:List Pb} (hk:0 < k) (g:QL S n l j) (h:QN S j ns m):QB S n (node k n m ns l) m :=
 node_mix hk (fun x hx=>by have:=h.inn x hx; have:=g.cov.le; omega) (g.ch.up (by have:=h.cov.le; omega)) (g.cov.add h.cov) (fun x=>Nat.add_comm _ _)
theorem node_knk {k:Int} {n i j m:Nat} {ns:List Nat} {l r:List Pb} (hk:0 < k) (g:QL S n l i) (h:QN S i ns j) (g2:QL S j r m):QB S n (node k n m ns (l++r)) m:=by
 have h1:=g.cov.le; have h2:=h.cov.le; have h3:=g2.cov.le
 exact node_mix hk (fun x hx=>by have:=h.inn x hx; omega) ((g.ch.up (by omega)).cat (g2.ch)) ((g.cov.add h.cov).add g2.cov) (fun x=>by rw [cntL_append]; omega)
theorem QB.marked {n m:Nat} {b:Pb} {k:Int} (h:QB S n b m):QB S n (marked k b) m:=by
 obtain ⟨h1,h2,h3,h4⟩:=h
 cases b
 exact ⟨by simpa only [Go.Proofs.YtmpmfamiegpmgaaGreatDoor.marked,Pb.Rt] using h1,h2,h3,h4.ext fun x=>by simp only [Go.Proofs.YtmpmfamiegpmgaaGreatDoor.marked,Pb.cnt]⟩
theorem oneOr_ks {k:Int} {n m:Nat} {l:List Pb} (hk:0 < k) (h:QL S n l m):QB S n (oneOr l k n m []) m:=by
 unfold oneOr
 split
 ·exact h.one
 ·exact node_ks hk h
end

/-- Of words and marks: no name is spelled so, but *. -/
def noName (t:List UInt8):Bool:=t == [42] || !((tokN t).1 == 6 || (tokN t).1 == 7 || (tokN t).1 == 9)
theorem pick_sub (ask:Int→Bool) (l:List Tok):∀ t ∈ pickT ask l,t ∈ l:=by
 induction l with
 | nil=>intro t h; exact h
 | cons x r ih =>
  intro t h
  unfold pickT at h
  cases hx:ask x.k <;> rw [hx] at h
  ·exact List.mem_cons_of_mem _ (ih t h)
  ·rcases List.mem_cons.1 h with rfl | h
   ·exact List.mem_cons_self
   ·exact List.mem_cons_of_mem _ (ih t h)
theorem kd_tok {S:Src} (T:S.ts=wordsT S.s) (n:Nat):S.kd n=(tokN (S.tx n).data.toList).1:=by
 unfold Src.kd Src.tx
 cases h:S.ts[n]? with
 | none=>rfl
 | some t =>
  have hm:t ∈ scanT S.s:=by
   have:t ∈ S.ts:=List.mem_of_getElem? h
   rw [T] at this
   unfold wordsT at this
   exact pick_sub _ _ _ this
  obtain ⟨h1,h2⟩:=restT_mem S.s 0 (by omega) t hm
  simp only
  by_cases hlt:t.a < S.s.size
  ·have e:=tokAt_in S.s t.a hlt
   rw [← h2] at e
   have hne:S.s.data.toList.drop t.a≠[]:=by rw [drop_at S.s t.a hlt]; simp
   have ha:=tok_again (S.s.data.toList.drop t.a) hne
   have ek:t.k=(tokN (S.s.data.toList.drop t.a)).1:=congrArg Tok.k e
   have ee:t.e=t.a+(tokN (S.s.data.toList.drop t.a)).2:=congrArg Tok.e e
   rw [ee,extract_drop,ha,ek]
  ·have:t.a=S.s.size:=by omega
   rw [this,tokAt_end] at h2
   have hk:t.k=0:=congrArg Tok.k h2
   have he:t.e=S.s.size:=congrArg Tok.e h2
   rw [hk,he,this]
   have:(S.s.extract S.s.size S.s.size).data.toList=[]:=by
    apply List.eq_nil_of_length_eq_zero
    simp
   rw [this]; rfl
section
variable {S:Src} (T:S.ts=wordsT S.s)
include T
theorem skip_is {t:List UInt8} (ht:noName t=true) {n:Nat} (h:S.is n t=true):Skip S n (n+1):=by
 have e:(S.tx n).data.toList=t:=by unfold Src.is at h; simpa using h
 have hk:=kd_tok T n
 rw [e] at hk
 unfold noName at ht
 refine skip_one ?_
 rcases Bool.or_eq_true_iff.1 ht with h1 | h1
 ·right; rw [beq_iff_eq.1 h1] at h; exact h
 ·left; unfold Src.nm; rw [hk]; simpa using h1
omit T in
theorem skip_kd {n:Nat} {k:Int} (h:(S.kd n == k)=true) (hk:(k == 6 || k == 7 || k == 9)=false):Skip S n (n+1):=by
 refine skip_one (.inl ?_)
 unfold Src.nm
 rw [beq_iff_eq.1 h]; exact hk
theorem need_rt {t:List UInt8} (ht:noName t=true) (n:Nat):Ret (S.need t n) fun _ m=>Skip S n m:=by
 unfold Src.need
 exact ret_if (fun h=>ret_ok (skip_is T ht h)) (fun _=>ret_form)
omit T in
theorem take_nm {ks:List Int} (hk:∀ k ∈ ks,(k == 6 || k == 7 || k == 9)=true) (n:Nat):Ret (S.take ks n) fun x m=>QN S n [x] m:=by
 unfold Src.take
 refine ret_if (fun h=>ret_ok ⟨fun x hx=>?_,name_one ?_⟩) (fun _=>ret_form)
 ·have:x=n:=by simpa using hx
  omega
 ·exact hk _ (by simpa using h)
omit T in
theorem take_sk (n:Nat):Ret (S.take [8] n) fun _ m=>Skip S n m:=by
 unfold Src.take
 refine ret_if (fun h=>ret_ok (skip_kd (k:=8) ?_ rfl)) (fun _=>ret_form)
 simpa using h
theorem pathL_rt {ks:List Int} (hk:∀ k ∈ ks,(k == 6 || k == 7 || k == 9)=true) (p:Nat):∀ (f:Nat) (acc:List Nat) (n:Nat),QN S p acc n→Ret (S.pathL ks f acc n) fun l m=>QN S p l m:=by
 intro f
 induction f with
 | zero=>intro acc n _; exact ret_dry
 | succ f ih =>
  intro acc n h
  unfold Src.pathL
  refine ret_if (fun hc=>?_) (fun _=>ret_ok h)
  simp only [Bool.and_eq_true] at hc
  have hs:=skip_is T (t:=[46]) (by kernel_rfl) hc.2
  exact ret_bind (take_nm hk (n+1)) (fun x m hx=>ih _ _ (h.cat (hs.qn hx)))
theorem path_rt {ks:List Int} (hk:∀ k ∈ ks,(k == 6 || k == 7 || k == 9)=true) (n:Nat):Ret (S.path ks n) fun l m=>QN S n l m:=by
 unfold Src.path
 exact ret_bind (take_nm hk n) (fun x m hx=>pathL_rt T hk n _ _ _ hx)
theorem typePath_rt (n:Nat):Ret (S.typePath n) fun l m=>QN S n l m:=by
 unfold Src.typePath
 exact ret_bind (path_rt T (by decide) n) (fun p m hp=>ret_if (fun _=>ret_ok hp) (fun _=>ret_form))
theorem value_rt (n:Nat):Ret (S.value n) fun x m=>QN S n [x] m:=by
 unfold Src.value
 refine ret_if (fun h=>?_) (fun _=>take_nm (by decide) n)
 exact (take_nm (by decide) (n+1)).mono fun x m hx=>(skip_is T (by kernel_rfl) h).qn hx
theorem rowL_rt {mark:List UInt8} (hm:noName mark=true) {read:Nat→Out Pb} (hr:∀ k,Ret (read k) fun b m=>QB S k b m) (p:Nat):∀ (f:Nat) (acc:List Pb) (n:Nat),QL S p acc n→Ret (rowL S mark read f acc n) fun l m=>QL S p l m:=by
 intro f
 induction f with
 | zero=>intro acc n _; exact ret_dry
 | succ f ih =>
  intro acc n h
  unfold rowL
  refine ret_if (fun hc=>?_) (fun _=>ret_ok h)
  exact ret_bind (hr (n+1)) (fun b m hb=>ih _ _ (h.cat ((skip_is T hm hc).ql hb.ql)))
theorem rowO_rt (F:Nat) {mark:List UInt8} (hm:noName mark=true) {read:Nat→Out Pb} (hr:∀ k,Ret (read k) fun b m=>QB S k b m) (n:Nat):Ret (rowO S F mark read n) fun l m=>QL S n l m:=by
 unfold rowO
 exact ret_bind (hr n) (fun b m hb=>rowL_rt T hm hr n F [b] m hb.ql)
theorem colon_rt (n:Nat) (h:((S.colon n).1 == 0)=false):Skip S n (n+1):=by
 unfold Src.colon at h
 cases h1:S.is n [58]
 ·cases h2:S.is n [58,62]
  ·rw [h1,h2] at h; cases h
  ·exact skip_is T (by kernel_rfl) h2
 ·exact skip_is T (by kernel_rfl) h1
section
variable {F:Nat} {rec:Nt→Nat→Nat→Out Pb} {d:Nat} (hrec:∀ nt k,S.may nt k→Ret (rec nt d k) fun b m=>QB S k b m)
include hrec
theorem atomicTyO_rt (n:Nat):Ret (atomicTyO S F rec d n) fun b m=>QB S n b m:=by
 unfold atomicTyO
 refine ret_if (fun h=>ret_ok (node_ks (by decide) ((QL.nil n).skip (skip_kd h rfl)))) (fun _=>ret_if (fun h=>?_) (fun _=>?_))
 ·refine ret_bind (rowO_rt T F (by kernel_rfl) (fun k=>hrec .ty k trivial) (n+1)) (fun l m hl=>?_)
  refine ret_bind (need_rt T (by kernel_rfl) m) (fun _ m2 h2=>?_)
  have hl2:=(skip_is T (by kernel_rfl) h).ql (hl.skip h2)
  unfold pick1
  split
  ·exact ret_ok hl2.one
  ·exact ret_bind (typePath_rt T m2) (fun p m3 hp=>ret_ok (node_kn (by decide) hl2 hp))
 ·exact ret_bind (typePath_rt T n) (fun p m3 hp=>ret_ok (node_ns (by decide) hp))
theorem appliedL_rt (n:Nat):∀ (f:Nat) (b:Pb) (m:Nat),QB S n b m→Ret (appliedL S n f b m) fun b m=>QB S n b m:=by
 have _:=hrec
 intro f
 induction f with
 | zero=>intro b m _; exact ret_dry
 | succ f ih =>
  intro b m h
  unfold appliedL
  exact ret_if (fun _=>ret_bind (typePath_rt T m) (fun p m1 hp=>ih _ _ (node_kn (by decide) h.ql hp))) (fun _=>ret_ok h)
theorem appliedO_rt (n:Nat):Ret (appliedO S F rec d n) fun b m=>QB S n b m:=by
 unfold appliedO
 exact ret_bind (atomicTyO_rt T hrec n) (fun b m hb=>appliedL_rt T hrec n F b m hb)
theorem productO_rt (n:Nat):Ret (productO S F rec d n) fun b m=>QB S n b m:=by
 unfold productO
 exact ret_bind (rowO_rt T F (by kernel_rfl) (appliedO_rt T hrec) n) (fun l m hl=>ret_ok (oneOr_ks (by decide) hl))
theorem tyO_rt (n:Nat):Ret (tyO S F rec d n) fun b m=>QB S n b m:=by
 unfold tyO
 refine ret_bind (productO_rt T hrec n) (fun b m hb=>ret_if (fun h=>?_) (fun _=>ret_ok hb))
 exact ret_bind (hrec .ty (m+1) trivial) (fun c m2 hc=>ret_ok (node_ks (by decide) (hb.ql.cat ((skip_is T (by kernel_rfl) h).ql hc.ql))))
omit hrec in
theorem tupleO_rt {fr n:Nat} (hs:Skip S fr n) {member:Nat→Out Pb} (hm:∀ k,Ret (member k) fun b m=>QB S k b m):Ret (tupleO S F fr member n) fun b m=>QB S fr b m:=by
 unfold tupleO
 refine ret_if (fun h=>ret_ok (node_ks (by decide) ((QL.nil fr).skip (hs.cat (skip_is T (by kernel_rfl) h))))) (fun _=>?_)
 refine ret_bind (rowO_rt T F (by kernel_rfl) hm n) (fun l m hl=>?_)
 exact ret_bind (need_rt T (by kernel_rfl) m) (fun _ m2 h2=>ret_ok (oneOr_ks (by decide) (hs.ql (hl.skip h2))))
omit hrec in
theorem plainO_rt {named:Int} (hk:0 < named) {member:Nat→Out Pb} (hm:∀ k,Ret (member k) fun b m=>QB S k b m) (n:Nat):Ret (plainO S F named member n) fun b m=>QB S n b m:=by
 unfold plainO
 refine ret_if (fun h=>ret_ok (node_ks (by decide) ((QL.nil n).skip (skip_kd h rfl)))) (fun _=>ret_if (fun h=>ret_ok (node_ks (by decide) ((QL.nil n).skip (skip_kd h rfl)))) (fun _=>ret_if (fun h=>?_) (fun _=>?_)))
 ·exact tupleO_rt T (skip_is T (by kernel_rfl) h) hm
 ·exact ret_bind (value_rt T n) (fun x m hx=>ret_ok (node_ns hk hx))
theorem atomicPatO_rt (n:Nat):Ret (atomicPatO S F rec d n) fun b m=>QB S n b m:=by
 unfold atomicPatO
 refine ret_if (fun h=>ret_ok (node_ks (by decide) ((QL.nil n).skip (skip_is T (by kernel_rfl) h)))) (fun _=>ret_if (fun _=>?_) (fun _=>plainO_rt T (by decide) (fun k=>hrec .pat k trivial) n))
 exact ret_bind (path_rt T (by decide) n) (fun p m hp=>ret_ok (node_ns (by decide) hp))
theorem patO_rt (n:Nat):Ret (patO S F rec d n) fun b m=>QB S n b m:=by
 unfold patO
 refine ret_if (fun h=>?_) (fun _=>ret_if (fun _=>?_) (fun _=>atomicPatO_rt T hrec n))
 ·simp only [Bool.and_eq_true,beq_iff_eq] at h
  have h1:QN S n [n] (n+1):=⟨fun x hx=>by have:x=n:=(by simpa using hx); omega,name_one (by unfold Src.nm; rw [h.1]; rfl)⟩
  exact ret_bind (hrec .pat (n+2) trivial) (fun b m hb=>ret_ok (node_nk (by decide) h1 ((skip_is T (by kernel_rfl) h.2).ql hb.ql)))
 ·refine ret_bind (path_rt T (by decide) n) (fun p m hp=>ret_if (fun _=>?_) (fun _=>ret_ok (node_ns (by decide) hp)))
  exact ret_bind (atomicPatO_rt T hrec m) (fun b m2 hb=>ret_ok (node_nk (by decide) hp hb.ql))
theorem decsL_rt (a p:Nat):∀ (f:Nat) (acc:List Pb) (n:Nat),QL S p acc n→Ret (decsL S rec d a f acc n) fun l m=>QL S p l m:=by
 intro f
 induction f with
 | zero=>intro acc n _; exact ret_dry
 | succ f ih =>
  intro acc n h
  unfold decsL
  refine ret_if (fun hc=>ih _ _ (h.skip (skip_is T (by kernel_rfl) hc))) (fun _=>ret_if (fun hd=>?_) (fun _=>ret_ok h))
  exact ret_bind (hrec (.dec a) n hd) (fun b m hb=>ih _ _ (h.cat hb.ql))
theorem decsO_rt (a n:Nat):Ret (decsO S F rec d a n) fun l m=>QL S n l m:=decsL_rt T hrec a n F [] n (QL.nil n)
theorem withinO_rt (a n:Nat):Ret (withinO S F rec d a n) fun b m=>QB S n b m:=by
 unfold withinO
 exact ret_bind (decsO_rt T hrec a n) (fun l m hl=>ret_ok (node_ks (by decide) hl))
theorem atomO_rt (n:Nat):Ret (atomO S F rec d n) fun b m=>QB S n b m:=by
 unfold atomO
 refine ret_if (fun _=>?_) (fun _=>ret_if (fun h=>?_) (fun _=>plainO_rt T (by decide) (fun k=>hrec .exp k trivial) n))
 ·exact ret_bind (path_rt T (by decide) n) (fun p m hp=>ret_if (fun _=>ret_ok (node_ns (by decide) hp)) (fun _=>ret_ok (node_ns (by decide) hp)))
 ·refine ret_bind (withinO_rt T hrec 0 (n+1)) (fun ds m hd=>?_)
  refine ret_bind (need_rt T (by kernel_rfl) m) (fun _ m2 h2=>?_)
  refine ret_bind (hrec .exp m2 trivial) (fun e m3 he=>?_)
  exact ret_bind (need_rt T (by kernel_rfl) m3) (fun _ m4 h4=>ret_ok (node_ks (by decide) (((skip_is T (by kernel_rfl) h).ql hd.ql).cat (h2.ql (he.ql.skip h4)))))
theorem callL_rt (p:Nat):∀ (f:Nat) (acc:List Pb) (n:Nat),QL S p acc n→Ret (callL S F rec d f acc n) fun l m=>QL S p l m:=by
 intro f
 induction f with
 | zero=>intro acc n _; exact ret_dry
 | succ f ih =>
  intro acc n h
  unfold callL
  exact ret_if (fun _=>ret_bind (atomO_rt T hrec n) (fun b m hb=>ih _ _ (h.cat hb.ql))) (fun _=>ret_ok h)
theorem callO_rt (n:Nat):Ret (callO S F rec d n) fun b m=>QB S n b m:=by
 unfold callO
 refine ret_bind (atomO_rt T hrec n) (fun b m hb=>?_)
 exact ret_bind (callL_rt T hrec n F [b] m hb.ql) (fun l m2 hl=>ret_ok (oneOr_ks (by decide) hl))
/-- Signs and what stands between them. -/
def QI (S:Src) (n:Nat) (l:List Nat × List Pb) (m:Nat):Prop:=l.2.length=l.1.length+1∧ChainP n m l.2∧(∀ x ∈ l.1,n≤x∧x < m)∧Cov S n m fun x=>cnN l.1 x+cntL x l.2
theorem infixL_rt (p:Nat):∀ (f:Nat) (sg:List Nat) (acc:List Pb) (n:Nat),QI S p (sg,acc) n→Ret (infixL S F rec d f sg acc n) fun l m=>QI S p l m:=by
 intro f
 induction f with
 | zero=>intro sg acc n _; exact ret_dry
 | succ f ih =>
  intro sg acc n h
  unfold infixL
  refine ret_if (fun _=>?_) (fun _=>ret_ok h)
  refine ret_bind (take_nm (by decide) n) (fun x m hx=>ret_bind (callO_rt T hrec m) (fun b m2 hb=>ih _ _ _ ?_))
  obtain ⟨h1,h2,h3,h4⟩:=h
  have i1:=h4.le; have i2:=hx.cov.le; have i3:=hb.cov.le
  have h1':acc.length=sg.length+1:=h1
  have h3':∀ x ∈ sg,p≤x∧x < n:=h3
  refine ⟨by simp only [List.length_append,List.length_singleton]; omega,(h2.up (by omega)).cat hb.ql.ch,fun y hy=>?_,((h4.add hx.cov).add hb.cov).ext fun y=>?_⟩
  ·rcases List.mem_append.1 hy with hy | hy
   ·have:=h3' y hy; omega
   ·have:=hx.inn y hy; omega
  ·simp only [cnN_append,cntL_append,cntL]; omega
theorem infixO_rt (n:Nat):Ret (infixO S F rec d n) fun b m=>QB S n b m:=by
 unfold infixO
 refine ret_bind (callO_rt T hrec n) (fun b m hb=>?_)
 refine ret_bind (infixL_rt T hrec n F [] [b] m ⟨rfl,hb.ql.ch,fun x hx=>(by cases hx),hb.ql.cov.ext fun x=>by simp [cnN_nil]⟩) (fun l m2 hl=>ret_ok ?_)
 obtain ⟨sg,ks⟩:=l
 obtain ⟨h1,h2,h3,h4⟩:=hl
 have h1:ks.length=sg.length+1:=h1
 have h2:ChainP n m2 ks:=h2
 have h4:Cov S n m2 fun x=>cnN sg x+cntL x ks:=h4
 show QB S n (oneOr ks 37 n m2 sg) m2
 unfold oneOr
 split
 ·next b =>
  have h1:1=sg.length+1:=h1
  have:sg=[]:=List.length_eq_zero_iff.1 (by omega)
  subst this
  exact QL.one ⟨h2,h4.ext fun x=>by simp [cnN_nil]⟩
 ·exact node_mix (by decide) h3 h2 h4 (fun _=>rfl)
theorem clauseO_rt {k:Int} (hk:0 < k) {fr n:Nat} (hs:Skip S fr n):Ret (clauseO S rec d k fr n) fun b m=>QB S fr b m:=by
 unfold clauseO
 refine ret_bind (hrec .pat n trivial) (fun p m hp=>?_)
 refine ret_bind (need_rt T (by kernel_rfl) m) (fun _ m2 h2=>?_)
 exact ret_bind (hrec .exp m2 trivial) (fun e m3 he=>ret_ok (node_ks hk ((hs.ql hp.ql).cat (h2.ql he.ql))))
theorem armO_rt (n:Nat):Ret (armO S rec d n) fun b m=>QB S n b m:=clauseO_rt T hrec (by decide) (Skip.nil n)
theorem expO_rt (n:Nat):Ret (expO S F rec d n) fun b m=>QB S n b m:=by
 unfold expO
 refine ret_if (fun h=>?_) (fun _=>ret_if (fun h=>?_) (fun _=>ret_if (fun h=>?_) (fun _=>infixO_rt T hrec n)))
 ·refine ret_bind (hrec .exp (n+1) trivial) (fun a m ha=>?_)
  refine ret_bind (need_rt T (by kernel_rfl) m) (fun _ m2 h2=>?_)
  refine ret_bind (hrec .exp m2 trivial) (fun b m3 hb=>?_)
  refine ret_bind (need_rt T (by kernel_rfl) m3) (fun _ m4 h4=>?_)
  exact ret_bind (hrec .exp m4 trivial) (fun c m5 hc=>ret_ok (node_ks (by decide) (((skip_is T (by kernel_rfl) h).ql ha.ql).cat ((h2.ql hb.ql).cat (h4.ql hc.ql)))))
 ·refine ret_bind (hrec .exp (n+1) trivial) (fun a m ha=>?_)
  refine ret_bind (need_rt T (by kernel_rfl) m) (fun _ m2 h2=>?_)
  exact ret_bind (rowO_rt T F (by kernel_rfl) (armO_rt T hrec) m2) (fun l m3 hl=>ret_ok (node_ks (by decide) (((skip_is T (by kernel_rfl) h).ql ha.ql).cat (h2.ql hl))))
 ·exact clauseO_rt T hrec (by decide) (skip_is T (by kernel_rfl) h)
omit hrec in
theorem varsL_rt (p:Nat):∀ (f n:Nat),Skip S p n→Ret (varsL S f n) fun _ m=>Skip S p m:=by
 intro f
 induction f with
 | zero=>intro n _; exact ret_dry
 | succ f ih =>
  intro n h
  unfold varsL
  exact ret_if (fun hc=>ret_bind (take_sk (n+1)) (fun _ m hm=>ih _ ((h.cat (skip_is T (by kernel_rfl) hc)).cat hm))) (fun _=>ret_ok h)
omit hrec in
theorem typeNameO_rt (n:Nat):Ret (typeNameO S F n) fun x m=>QN S n [x] m:=by
 unfold typeNameO
 refine ret_if (fun h=>?_) (fun _=>ret_if (fun h=>?_) (fun _=>take_nm (by decide) n))
 ·exact (take_nm (by decide) (n+1)).mono fun x m hx=>(skip_kd h rfl).qn hx
 ·refine ret_bind (take_sk (n+1)) (fun _ m hm=>?_)
  refine ret_bind (varsL_rt T (n+1) F m hm) (fun _ m2 h2=>?_)
  refine ret_bind (need_rt T (by kernel_rfl) m2) (fun _ m3 h3=>?_)
  exact (take_nm (by decide) m3).mono fun x m hx=>((skip_is T (by kernel_rfl) h).cat (h2.cat h3)).qn hx
theorem conO_rt (n:Nat):Ret (conO S rec d n) fun b m=>QB S n b m:=by
 unfold conO
 refine ret_bind (take_nm (by decide) n) (fun x m hx=>ret_if (fun h=>?_) (fun _=>ret_ok (node_ns (by decide) hx)))
 exact ret_bind (hrec .ty (m+1) trivial) (fun b m2 hb=>ret_ok (node_nk (by decide) hx ((skip_is T (by kernel_rfl) h).ql hb.ql)))
theorem dbindO_rt (n:Nat):Ret (dbindO S F rec d n) fun b m=>QB S n b m:=by
 unfold dbindO
 refine ret_bind (typeNameO_rt T n) (fun x m hx=>?_)
 refine ret_bind (need_rt T (by kernel_rfl) m) (fun _ m2 h2=>?_)
 exact ret_bind (rowO_rt T F (by kernel_rfl) (conO_rt T hrec) m2) (fun l m3 hl=>ret_ok (node_nk (by decide) hx (h2.ql hl)))
theorem datatypesO_rt {fr n:Nat} (hs:Skip S fr n):Ret (datatypesO S F rec d fr n) fun b m=>QB S fr b m:=by
 unfold datatypesO
 exact ret_bind (rowO_rt T F (by kernel_rfl) (dbindO_rt T hrec) n) (fun l m hl=>ret_ok (node_ks (by decide) (hs.ql hl)))
theorem specO_rt (n:Nat):Ret (specO S F rec d n) fun b m=>QB S n b m:=by
 unfold specO
 refine ret_if (fun h=>?_) (fun _=>ret_if (fun h=>?_) (fun _=>ret_if (fun h=>?_) (fun _=>ret_if (fun h=>?_) (fun _=>?_))))
 ·refine ret_bind (value_rt T (n+1)) (fun x m hx=>?_)
  refine ret_bind (need_rt T (by kernel_rfl) m) (fun _ m2 h2=>?_)
  exact ret_bind (hrec .ty m2 trivial) (fun b m3 hb=>ret_ok (node_nk (by decide) ((skip_is T (by kernel_rfl) h).qn hx) (h2.ql hb.ql)))
 ·refine ret_bind (typeNameO_rt T (n+1)) (fun x m hx=>ret_if (fun h2=>?_) (fun _=>ret_ok (node_ns (by decide) ((skip_is T (by kernel_rfl) h).qn hx))))
  exact ret_bind (hrec .ty (m+1) trivial) (fun b m3 hb=>ret_ok (node_nk (by decide) ((skip_is T (by kernel_rfl) h).qn hx) ((skip_is T (by kernel_rfl) h2).ql hb.ql)))
 ·exact datatypesO_rt T hrec (skip_is T (by kernel_rfl) h)
 ·refine ret_bind (take_nm (by decide) (n+1)) (fun x m hx=>?_)
  refine ret_bind (need_rt T (by kernel_rfl) m) (fun _ m2 h2=>?_)
  exact ret_bind (hrec .sig m2 trivial) (fun b m3 hb=>ret_ok (node_nk (by decide) ((skip_is T (by kernel_rfl) h).qn hx) (h2.ql hb.ql)))
 ·refine ret_bind (need_rt T (by kernel_rfl) n) (fun _ m2 h2=>?_)
  exact ret_bind (hrec .sig m2 trivial) (fun b m3 hb=>ret_ok (node_ks (by decide) (h2.ql hb.ql)))
theorem specsL_rt (p:Nat):∀ (f:Nat) (acc:List Pb) (n:Nat),QL S p acc n→Ret (specsL S F rec d f acc n) fun l m=>QL S p l m:=by
 intro f
 induction f with
 | zero=>intro acc n _; exact ret_dry
 | succ f ih =>
  intro acc n h
  unfold specsL
  refine ret_if (fun hc=>ret_ok (h.skip (skip_is T (by kernel_rfl) hc))) (fun _=>ret_if (fun hc=>ih _ _ (h.skip (skip_is T (by kernel_rfl) hc))) (fun _=>?_))
  exact ret_bind (specO_rt T hrec n) (fun b m hb=>ih _ _ (h.cat hb.ql))
theorem bareSigO_rt (n:Nat):Ret (bareSigO S F rec d n) fun b m=>QB S n b m:=by
 unfold bareSigO
 refine ret_if (fun h=>?_) (fun _=>ret_bind (take_nm (by decide) n) (fun x m hx=>ret_ok (node_ns (by decide) hx)))
 exact ret_bind (specsL_rt T hrec (n+1) F [] (n+1) (QL.nil _)) (fun l m hl=>ret_ok (node_ks (by decide) ((skip_is T (by kernel_rfl) h).ql hl)))
theorem whereL_rt (p:Nat):∀ (f:Nat) (b:Pb) (n:Nat),QB S p b n→Ret (whereL S rec d p f b n) fun b m=>QB S p b m:=by
 intro f
 induction f with
 | zero=>intro b n _; exact ret_dry
 | succ f ih =>
  intro b n h
  unfold whereL
  refine ret_if (fun hc=>?_) (fun _=>ret_ok h)
  refine ret_bind (need_rt T (by kernel_rfl) (n+1)) (fun _ m h1=>?_)
  refine ret_bind (typePath_rt T m) (fun p m2 hp=>?_)
  refine ret_bind (need_rt T (by kernel_rfl) m2) (fun _ m3 h3=>?_)
  exact ret_bind (hrec .ty m3 trivial) (fun c m4 hb=>ih _ _ (node_knk (l:=[b]) (r:=[c]) (by decide) (h.ql.skip ((skip_is T (by kernel_rfl) hc).cat h1)) hp (h3.ql hb.ql)))
theorem sigO_rt (n:Nat):Ret (sigO S F rec d n) fun b m=>QB S n b m:=by
 unfold sigO
 exact ret_bind (bareSigO_rt T hrec n) (fun b m hb=>whereL_rt T hrec n F b m hb)
theorem bareStrO_rt (n:Nat):Ret (bareStrO S F rec d n) fun b m=>QB S n b m:=by
 unfold bareStrO
 refine ret_if (fun h=>?_) (fun _=>ret_if (fun h=>?_) (fun _=>ret_bind (path_rt T (by decide) n) (fun p m hp=>ret_ok (node_ns (by decide) hp))))
 ·refine ret_bind (decsO_rt T hrec 1 (n+1)) (fun l m hl=>?_)
  exact ret_bind (need_rt T (by kernel_rfl) m) (fun _ m2 h2=>ret_ok (node_ks (by decide) ((skip_is T (by kernel_rfl) h).ql (hl.skip h2))))
 ·simp only [Bool.and_eq_true,beq_iff_eq] at h
  have h1:QN S n [n] (n+1):=⟨fun x hx=>by have:x=n:=(by simpa using hx); omega,name_one (by unfold Src.nm; rw [h.1]; rfl)⟩
  refine ret_bind (hrec .str (n+2) trivial) (fun b m hb=>?_)
  exact ret_bind (need_rt T (by kernel_rfl) m) (fun _ m2 h2=>ret_ok (node_nk (by decide) h1 ((skip_is T (by kernel_rfl) h.2).ql (hb.ql.skip h2))))
theorem sealL_rt (p:Nat):∀ (f:Nat) (b:Pb) (n:Nat),QB S p b n→Ret (sealL S rec d p f b n) fun b m=>QB S p b m:=by
 intro f
 induction f with
 | zero=>intro b n _; exact ret_dry
 | succ f ih =>
  intro b n h
  unfold sealL
  refine ret_if (fun _=>ret_ok h) (fun hc=>?_)
  exact ret_bind (hrec .sig (n+1) trivial) (fun s m hs=>ih _ _ (QB.marked (node_ks (by decide) (h.ql.cat ((colon_rt T n hc).ql hs.ql)))))
theorem strO_rt (n:Nat):Ret (strO S F rec d n) fun b m=>QB S n b m:=by
 unfold strO
 exact ret_bind (bareStrO_rt T hrec n) (fun b m hb=>sealL_rt T hrec n F b m hb)
theorem bodyO_rt (n:Nat):Ret (bodyO S rec d n) fun l m=>QL S n l.2 m:=by
 unfold bodyO
 refine ret_bind (P:=fun l m=>QL S n l m) (ret_if (fun _=>ret_ok (QL.nil n)) (fun hc=>?_)) (fun l m hl=>?_)
 ·exact ret_bind (hrec .sig (n+1) trivial) (fun s m hs=>ret_ok ((colon_rt T n hc).ql hs.ql))
 ·refine ret_bind (need_rt T (by kernel_rfl) m) (fun _ m2 h2=>?_)
  exact ret_bind (hrec .str m2 trivial) (fun b m3 hb=>ret_ok (hl.cat (h2.ql hb.ql)))
theorem structureO_rt {fr n:Nat} (hs:Skip S fr n):Ret (structureO S rec d fr n) fun b m=>QB S fr b m:=by
 unfold structureO
 refine ret_bind (take_nm (by decide) n) (fun x m hx=>?_)
 exact ret_bind (bodyO_rt T hrec m) (fun l m2 hl=>ret_ok (QB.marked (node_nk (by decide) (hs.qn hx) hl)))
theorem functorO_rt {fr n:Nat} (hs:Skip S fr n):Ret (functorO S rec d fr n) fun b m=>QB S fr b m:=by
 unfold functorO
 refine ret_bind (take_nm (by decide) n) (fun x m hx=>?_)
 refine ret_bind (need_rt T (by kernel_rfl) m) (fun _ m2 h2=>?_)
 refine ret_bind (take_nm (by decide) m2) (fun y m3 hy=>?_)
 refine ret_bind (need_rt T (by kernel_rfl) m3) (fun _ m4 h4=>?_)
 refine ret_bind (hrec .sig m4 trivial) (fun g m5 hg=>?_)
 refine ret_bind (need_rt T (by kernel_rfl) m5) (fun _ m6 h6=>?_)
 exact ret_bind (bodyO_rt T hrec m6) (fun l m7 hl=>ret_ok (QB.marked (node_nk (ns:=[x]++[y]) (by decide) (hs.qn (hx.cat (h2.qn hy))) (h4.ql (hg.ql.cat (h6.ql hl))))))
theorem funL_rt (p:Nat):∀ (f:Nat) (acc:List Pb) (n:Nat),QL S p acc n→Ret (funL S F rec d f acc n) fun l m=>QL S p l m:=by
 intro f
 induction f with
 | zero=>intro acc n _; exact ret_dry
 | succ f ih =>
  intro acc n h
  unfold funL
  exact ret_if (fun _=>ret_bind (atomicPatO_rt T hrec n) (fun b m hb=>ih _ _ (h.cat hb.ql))) (fun _=>ret_ok h)
theorem functionO_rt (n:Nat):Ret (functionO S F rec d n) fun b m=>QB S n b m:=by
 unfold functionO
 refine ret_bind (value_rt T n) (fun x m hx=>?_)
 refine ret_bind (atomicPatO_rt T hrec m) (fun b m2 hb=>?_)
 refine ret_bind (funL_rt T hrec m F [b] m2 hb.ql) (fun l m3 hl=>?_)
 refine ret_bind (need_rt T (by kernel_rfl) m3) (fun _ m4 h4=>?_)
 exact ret_bind (hrec .exp m4 trivial) (fun e m5 he=>ret_ok (node_nk (by decide) hx (hl.cat (h4.ql he.ql))))
theorem localO_rt {fr n:Nat} (hs:Skip S fr n) (a:Nat):Ret (localO S F rec d fr a n) fun b m=>QB S fr b m:=by
 unfold localO
 refine ret_bind (withinO_rt T hrec a n) (fun x m hx=>?_)
 refine ret_bind (need_rt T (by kernel_rfl) m) (fun _ m2 h2=>?_)
 refine ret_bind (withinO_rt T hrec a m2) (fun y m3 hy=>?_)
 exact ret_bind (need_rt T (by kernel_rfl) m3) (fun _ m4 h4=>ret_ok (node_ks (by decide) ((hs.ql hx.ql).cat (h2.ql (hy.ql.skip h4)))))
theorem decO_rt (a n:Nat) (hl:declares S a n=true):Ret (decO S F rec d a n) fun b m=>QB S n b m:=by
 unfold decO
 refine ret_if (fun h=>?_) (fun q1=>ret_if (fun h=>?_) (fun q2=>ret_if (fun h=>?_) (fun q3=>ret_if (fun h=>?_) (fun q4=>ret_if (fun h=>?_) (fun q5=>ret_if (fun h=>?_) (fun q6=>ret_if (fun h=>?_) (fun q7=>ret_if (fun h=>?_) (fun q8=>?_))))))))
 ·refine ret_bind (hrec .pat (n+1) trivial) (fun p m hp=>?_)
  refine ret_bind (need_rt T (by kernel_rfl) m) (fun _ m2 h2=>?_)
  exact ret_bind (hrec .exp m2 trivial) (fun e m3 he=>ret_ok (node_ks (by decide) (((skip_is T (by kernel_rfl) h).ql hp.ql).cat (h2.ql he.ql))))
 ·exact ret_bind (rowO_rt T F (by kernel_rfl) (functionO_rt T hrec) (n+1)) (fun l m hl=>ret_ok (node_ks (by decide) ((skip_is T (by kernel_rfl) h).ql hl)))
 ·refine ret_bind (typeNameO_rt T (n+1)) (fun x m hx=>?_)
  refine ret_bind (need_rt T (by kernel_rfl) m) (fun _ m2 h2=>?_)
  exact ret_bind (hrec .ty m2 trivial) (fun b m3 hb=>ret_ok (node_nk (by decide) ((skip_is T (by kernel_rfl) h).qn hx) (h2.ql hb.ql)))
 ·exact datatypesO_rt T hrec (skip_is T (by kernel_rfl) h)
 ·exact structureO_rt T hrec (skip_is T (by kernel_rfl) h)
 ·refine ret_bind (take_nm (by decide) (n+1)) (fun x m hx=>?_)
  refine ret_bind (need_rt T (by kernel_rfl) m) (fun _ m2 h2=>?_)
  exact ret_bind (hrec .sig m2 trivial) (fun b m3 hb=>ret_ok (node_nk (by decide) ((skip_is T (by kernel_rfl) h).qn hx) (h2.ql hb.ql)))
 ·exact functorO_rt T hrec (skip_is T (by kernel_rfl) h)
 ·exact ret_bind (path_rt T (by decide) (n+1)) (fun p m hp=>ret_ok (node_ns (by decide) ((skip_is T (by kernel_rfl) h).qn hp)))
 ·refine localO_rt T hrec (skip_is T (t:=[108,111,99,97,108]) (by kernel_rfl) ?_) a
  unfold declares at hl
  simp only [q1,q2,q3,q4,q5,q6,q7,q8,Bool.or_self,Bool.false_or,cond_false] at hl
  exact hl
end

theorem parts_rt:∀ (f:Nat) (nt:Nt) (d n:Nat),S.may nt n→Ret (parts S f nt d n) fun b m=>QB S n b m:=by
 intro f
 induction f with
 | zero=>intro nt d n _; exact ret_dry
 | succ f ih =>
  intro nt d n hm
  unfold parts
  refine ret_if (fun _=>ret_deep) (fun _=>?_)
  have hrec:∀ nt k,S.may nt k→Ret (parts S f nt (d+1) k) fun b m=>QB S k b m:=fun nt k hk=>ih nt (d+1) k hk
  cases nt with
  | exp=>exact expO_rt T hrec n
  | pat=>exact patO_rt T hrec n
  | ty=>exact tyO_rt T hrec n
  | sig=>exact sigO_rt T hrec n
  | str=>exact strO_rt T hrec n
  | dec a=>exact decO_rt T hrec a n hm
theorem fileO_rt (F:Nat):Ret (fileO S F 0) fun b m=>QB S 0 b m:=by
 unfold fileO
 exact ret_bind (decsO_rt T (F:=F) (rec:=parts S F) (d:=0) (fun nt k hk=>parts_rt T F nt 0 k hk) 2 0) (fun l m hl=>ret_ok (node_ks (by decide) hl))
end
end Go.Proofs.YtmpmfamiegpmgaaGreatDoor

namespace Go.Proofs.YtmpmfamiegpmgaaGreatDoor
open Go.RowKit
set_option maxRecDepth 20000
set_option linter.unusedVariables false
set_option linter.unusedSimpArgs false

mutual
/-- A branch, all its parts and all their names. -/
def Pb.wt:Pb→Nat
 | .mk _ _ _ _ ns ks=>1+ns.length+wtL ks
def wtL:List Pb→Nat
 | []=>0
 | b :: r=>b.wt+wtL r
end
theorem wtL_append (a b:List Pb):wtL (a++b)=wtL a+wtL b:=by
 induction a with
 | nil=>simp [wtL]
 | cons y r ih=>simp [wtL,ih]; omega
theorem wt_node (k:Int) (f t:Nat) (ns:List Nat) (l:List Pb):(node k f t ns l).wt=1+ns.length+wtL l:=by
 simp [node,Pb.wt]
theorem wt_marked (m:Int) (b:Pb):(marked m b).wt=b.wt:=by
 cases b; simp [marked,Pb.wt]
theorem oneOr_wt {l:List Pb} {k:Int} {f t:Nat} {ns:List Nat} {n m:Nat} (h:wtL l+l.length+ns.length+3 * n≤3 * m) (h1:1≤l.length):(oneOr l k f t ns).wt+1+3 * n≤3 * m:=by
 unfold oneOr
 split
 ·simp [wtL] at h; omega
 ·next hne =>
  rw [wt_node]
  match l,hne,h1 with
  | a :: b :: r,_,_=>simp only [List.length_cons] at h ⊢; omega
  | [a],hne,_=>exact absurd rfl (hne a)
section
variable {S:Src}
theorem need_wt {t:List UInt8} (n:Nat):Ret (S.need t n) fun _ m=>m=n+1:=by
 unfold Src.need
 exact ret_if (fun h=>ret_ok rfl) (fun _=>ret_form)
theorem take_wt {ks:List Int} (n:Nat):Ret (S.take ks n) fun x m=>m=n+1:=by
 unfold Src.take
 exact ret_if (fun h=>ret_ok rfl) (fun _=>ret_form)
theorem pathL_wt {ks:List Int} (p:Nat):∀ (f:Nat) (acc:List Nat) (n:Nat),1≤acc.length→acc.length+p≤n→Ret (S.pathL ks f acc n) fun l m=>1≤l.length∧l.length+p≤m:=by
 intro f
 induction f with
 | zero=>intro acc n _ _; exact ret_dry
 | succ f ih =>
  intro acc n h0 h
  unfold Src.pathL
  refine ret_if (fun hc=>?_) (fun _=>ret_ok ⟨h0,h⟩)
  exact ret_bind (take_wt (n+1)) (fun x m hx=>ih _ _ (by simp) (by simp; omega))
theorem path_wt {ks:List Int} (n:Nat):Ret (S.path ks n) fun l m=>1≤l.length∧l.length+n≤m:=by
 unfold Src.path
 exact ret_bind (take_wt n) (fun x m hx=>pathL_wt n _ _ _ (by simp) (by simp; omega))
theorem typePath_wt (n:Nat):Ret (S.typePath n) fun l m=>1≤l.length∧l.length+n≤m:=by
 unfold Src.typePath
 exact ret_bind (path_wt n) (fun p m hp=>ret_if (fun _=>ret_ok hp) (fun _=>ret_form))
theorem value_wt (n:Nat):Ret (S.value n) fun x m=>n+1≤m:=by
 unfold Src.value
 refine ret_if (fun h=>?_) (fun _=>(take_wt n).mono fun x m hx=>by omega)
 exact (take_wt (n+1)).mono fun x m hx=>by omega
theorem rowL_wt {mark:List UInt8} {read:Nat→Out Pb} (hr:∀ k,Ret (read k) fun b m=>b.wt+1+3 * k≤3 * m) (p:Nat):∀ (f:Nat) (acc:List Pb) (n:Nat),1≤acc.length→wtL acc+acc.length+3 * p≤3 * n→Ret (rowL S mark read f acc n) fun l m=>1≤l.length∧wtL l+l.length+3 * p≤3 * m:=by
 intro f
 induction f with
 | zero=>intro acc n _ _; exact ret_dry
 | succ f ih =>
  intro acc n h0 h
  unfold rowL
  refine ret_if (fun hc=>?_) (fun _=>ret_ok ⟨h0,h⟩)
  exact ret_bind (hr (n+1)) (fun b m hb=>ih _ _ (by simp) (by simp only [wtL_append,wtL,List.length_append,List.length_singleton]; omega))
theorem rowO_wt (F:Nat) {mark:List UInt8} {read:Nat→Out Pb} (hr:∀ k,Ret (read k) fun b m=>b.wt+1+3 * k≤3 * m) (n:Nat):Ret (rowO S F mark read n) fun l m=>1≤l.length∧wtL l+l.length+3 * n≤3 * m:=by
 unfold rowO
 exact ret_bind (hr n) (fun b m hb=>rowL_wt hr n F [b] m (by simp) (by simp [wtL]; omega))
section
variable {F:Nat} {rec:Nt→Nat→Nat→Out Pb} {d:Nat} (hrec:∀ nt k,S.may nt k→Ret (rec nt d k) fun b m=>b.wt+1+3 * k≤3 * m)
include hrec
theorem atomicTyO_wt (n:Nat):Ret (atomicTyO S F rec d n) fun b m=>b.wt+1+3 * n≤3 * m:=by
 unfold atomicTyO
 refine ret_if (fun h=>ret_ok (by simp [wt_node,wtL]; omega)) (fun _=>ret_if (fun h=>?_) (fun _=>?_))
 ·refine ret_bind (rowO_wt F (fun k=>hrec .ty k trivial) (n+1)) (fun l m hl=>?_)
  refine ret_bind (need_wt m) (fun _ m2 h2=>?_)
  unfold pick1
  split
  ·exact ret_ok (by simp only [wtL,List.length_singleton] at hl; omega)
  ·exact ret_bind (typePath_wt m2) (fun p m3 hp=>ret_ok (by rw [wt_node]; omega))
 ·exact ret_bind (typePath_wt n) (fun p m3 hp=>ret_ok (by simp only [wt_node,wtL]; omega))
theorem appliedL_wt (n:Nat):∀ (f:Nat) (b:Pb) (m:Nat),b.wt+1+3 * n≤3 * m→Ret (appliedL S n f b m) fun b m=>b.wt+1+3 * n≤3 * m:=by
 have _:=hrec
 intro f
 induction f with
 | zero=>intro b m _; exact ret_dry
 | succ f ih =>
  intro b m h
  unfold appliedL
  exact ret_if (fun _=>ret_bind (typePath_wt m) (fun p m1 hp=>ih _ _ (by simp only [wt_node,wtL]; omega))) (fun _=>ret_ok h)
theorem appliedO_wt (n:Nat):Ret (appliedO S F rec d n) fun b m=>b.wt+1+3 * n≤3 * m:=by
 unfold appliedO
 exact ret_bind (atomicTyO_wt hrec n) (fun b m hb=>appliedL_wt hrec n F b m hb)
theorem productO_wt (n:Nat):Ret (productO S F rec d n) fun b m=>b.wt+1+3 * n≤3 * m:=by
 unfold productO
 exact ret_bind (rowO_wt F (appliedO_wt hrec) n) (fun l m hl=>ret_ok (oneOr_wt (by simpa using hl.2) hl.1))
theorem tyO_wt (n:Nat):Ret (tyO S F rec d n) fun b m=>b.wt+1+3 * n≤3 * m:=by
 unfold tyO
 refine ret_bind (productO_wt hrec n) (fun b m hb=>ret_if (fun h=>?_) (fun _=>ret_ok hb))
 exact ret_bind (hrec .ty (m+1) trivial) (fun c m2 hc=>ret_ok (by simp only [wt_node,wtL,List.length_nil]; omega))
omit hrec in
theorem tupleO_wt {fr n:Nat} (hs:fr+1≤n) {member:Nat→Out Pb} (hm:∀ k,Ret (member k) fun b m=>b.wt+1+3 * k≤3 * m):Ret (tupleO S F fr member n) fun b m=>b.wt+1+3 * fr≤3 * m:=by
 unfold tupleO
 refine ret_if (fun h=>ret_ok (by simp only [wt_node,wtL,List.length_nil]; omega)) (fun _=>?_)
 refine ret_bind (rowO_wt F hm n) (fun l m hl=>?_)
 exact ret_bind (need_wt m) (fun _ m2 h2=>ret_ok (oneOr_wt (by simp only [List.length_nil]; omega) hl.1))
omit hrec in
theorem plainO_wt {named:Int} {member:Nat→Out Pb} (hm:∀ k,Ret (member k) fun b m=>b.wt+1+3 * k≤3 * m) (n:Nat):Ret (plainO S F named member n) fun b m=>b.wt+1+3 * n≤3 * m:=by
 unfold plainO
 refine ret_if (fun h=>ret_ok (by simp only [wt_node,wtL,List.length_nil]; omega)) (fun _=>ret_if (fun h=>ret_ok (by simp only [wt_node,wtL,List.length_nil]; omega)) (fun _=>ret_if (fun h=>?_) (fun _=>?_)))
 ·exact tupleO_wt (by omega) hm
 ·exact ret_bind (value_wt n) (fun x m hx=>ret_ok (by simp only [wt_node,wtL,List.length_singleton]; omega))
theorem atomicPatO_wt (n:Nat):Ret (atomicPatO S F rec d n) fun b m=>b.wt+1+3 * n≤3 * m:=by
 unfold atomicPatO
 refine ret_if (fun h=>ret_ok (by simp only [wt_node,wtL,List.length_nil]; omega)) (fun _=>ret_if (fun _=>?_) (fun _=>plainO_wt (fun k=>hrec .pat k trivial) n))
 exact ret_bind (path_wt n) (fun p m hp=>ret_ok (by simp only [wt_node,wtL]; omega))
theorem patO_wt (n:Nat):Ret (patO S F rec d n) fun b m=>b.wt+1+3 * n≤3 * m:=by
 unfold patO
 refine ret_if (fun h=>?_) (fun _=>ret_if (fun _=>?_) (fun _=>atomicPatO_wt hrec n))
 ·exact ret_bind (hrec .pat (n+2) trivial) (fun b m hb=>ret_ok (by simp only [wt_node,wtL,List.length_singleton]; omega))
 ·refine ret_bind (path_wt n) (fun p m hp=>ret_if (fun _=>?_) (fun _=>ret_ok (by simp only [wt_node,wtL]; omega)))
  exact ret_bind (atomicPatO_wt hrec m) (fun b m2 hb=>ret_ok (by simp only [wt_node,wtL]; omega))
theorem decsL_wt (a p:Nat):∀ (f:Nat) (acc:List Pb) (n:Nat),wtL acc+acc.length+3 * p≤3 * n→Ret (decsL S rec d a f acc n) fun l m=>wtL l+l.length+3 * p≤3 * m:=by
 intro f
 induction f with
 | zero=>intro acc n _; exact ret_dry
 | succ f ih =>
  intro acc n h
  unfold decsL
  refine ret_if (fun hc=>ih _ _ (by omega)) (fun _=>ret_if (fun hd=>?_) (fun _=>ret_ok h))
  exact ret_bind (hrec (.dec a) n hd) (fun b m hb=>ih _ _ (by simp only [wtL_append,wtL,List.length_append,List.length_singleton]; omega))
theorem decsO_wt (a n:Nat):Ret (decsO S F rec d a n) fun l m=>wtL l+l.length+3 * n≤3 * m:=decsL_wt hrec a n F [] n (by simp [wtL])
theorem withinO_wt (a n:Nat):Ret (withinO S F rec d a n) fun b m=>b.wt+3 * n≤3 * m+1:=by
 unfold withinO
 exact ret_bind (decsO_wt hrec a n) (fun l m hl=>ret_ok (by simp only [wt_node,List.length_nil]; omega))
theorem atomO_wt (n:Nat):Ret (atomO S F rec d n) fun b m=>b.wt+1+3 * n≤3 * m:=by
 unfold atomO
 refine ret_if (fun _=>?_) (fun _=>ret_if (fun h=>?_) (fun _=>plainO_wt (fun k=>hrec .exp k trivial) n))
 ·exact ret_bind (path_wt n) (fun p m hp=>ret_if (fun _=>ret_ok (by simp only [wt_node,wtL]; omega)) (fun _=>ret_ok (by simp only [wt_node,wtL]; omega)))
 ·refine ret_bind (withinO_wt hrec 0 (n+1)) (fun ds m hd=>?_)
  refine ret_bind (need_wt m) (fun _ m2 h2=>?_)
  refine ret_bind (hrec .exp m2 trivial) (fun e m3 he=>?_)
  exact ret_bind (need_wt m3) (fun _ m4 h4=>ret_ok (by simp only [wt_node,wtL,List.length_nil]; omega))
theorem callL_wt (p:Nat):∀ (f:Nat) (acc:List Pb) (n:Nat),1≤acc.length→wtL acc+acc.length+3 * p≤3 * n→Ret (callL S F rec d f acc n) fun l m=>1≤l.length∧wtL l+l.length+3 * p≤3 * m:=by
 intro f
 induction f with
 | zero=>intro acc n _ _; exact ret_dry
 | succ f ih =>
  intro acc n h0 h
  unfold callL
  exact ret_if (fun _=>ret_bind (atomO_wt hrec n) (fun b m hb=>ih _ _ (by simp) (by simp only [wtL_append,wtL,List.length_append,List.length_singleton]; omega))) (fun _=>ret_ok ⟨h0,h⟩)
theorem callO_wt (n:Nat):Ret (callO S F rec d n) fun b m=>b.wt+1+3 * n≤3 * m:=by
 unfold callO
 refine ret_bind (atomO_wt hrec n) (fun b m hb=>?_)
 exact ret_bind (callL_wt hrec n F [b] m (by simp) (by simp [wtL]; omega)) (fun l m2 hl=>ret_ok (oneOr_wt (by simpa using hl.2) hl.1))
theorem infixL_wt (p:Nat):∀ (f:Nat) (sg:List Nat) (acc:List Pb) (n:Nat),1≤acc.length→wtL acc+acc.length+sg.length+3 * p≤3 * n→Ret (infixL S F rec d f sg acc n) fun l m=>1≤l.2.length∧wtL l.2+l.2.length+l.1.length+3 * p≤3 * m:=by
 intro f
 induction f with
 | zero=>intro sg acc n _ _; exact ret_dry
 | succ f ih =>
  intro sg acc n h0 h
  unfold infixL
  refine ret_if (fun _=>?_) (fun _=>ret_ok ⟨h0,h⟩)
  exact ret_bind (take_wt n) (fun x m hx=>ret_bind (callO_wt hrec m) (fun b m2 hb=>ih _ _ _ (by simp) (by simp only [wtL_append,wtL,List.length_append,List.length_singleton]; omega)))
theorem infixO_wt (n:Nat):Ret (infixO S F rec d n) fun b m=>b.wt+1+3 * n≤3 * m:=by
 unfold infixO
 refine ret_bind (callO_wt hrec n) (fun b m hb=>?_)
 exact ret_bind (infixL_wt hrec n F [] [b] m (by simp) (by simp [wtL]; omega)) (fun l m2 hl=>ret_ok (oneOr_wt hl.2 hl.1))
theorem clauseO_wt {k:Int} {fr n:Nat} (hs:fr≤n):Ret (clauseO S rec d k fr n) fun b m=>b.wt+1+3 * fr≤3 * m:=by
 unfold clauseO
 refine ret_bind (hrec .pat n trivial) (fun p m hp=>?_)
 refine ret_bind (need_wt m) (fun _ m2 h2=>?_)
 exact ret_bind (hrec .exp m2 trivial) (fun e m3 he=>ret_ok (by simp only [wt_node,wtL,List.length_nil]; omega))
theorem armO_wt (n:Nat):Ret (armO S rec d n) fun b m=>b.wt+1+3 * n≤3 * m:=clauseO_wt hrec (Nat.le_refl _)
theorem expO_wt (n:Nat):Ret (expO S F rec d n) fun b m=>b.wt+1+3 * n≤3 * m:=by
 unfold expO
 refine ret_if (fun h=>?_) (fun _=>ret_if (fun h=>?_) (fun _=>ret_if (fun h=>?_) (fun _=>infixO_wt hrec n)))
 ·refine ret_bind (hrec .exp (n+1) trivial) (fun a m ha=>?_)
  refine ret_bind (need_wt m) (fun _ m2 h2=>?_)
  refine ret_bind (hrec .exp m2 trivial) (fun b m3 hb=>?_)
  refine ret_bind (need_wt m3) (fun _ m4 h4=>?_)
  exact ret_bind (hrec .exp m4 trivial) (fun c m5 hc=>ret_ok (by simp only [wt_node,wtL,List.length_nil]; omega))
 ·refine ret_bind (hrec .exp (n+1) trivial) (fun a m ha=>?_)
  refine ret_bind (need_wt m) (fun _ m2 h2=>?_)
  exact ret_bind (rowO_wt F (armO_wt hrec) m2) (fun l m3 hl=>ret_ok (by simp only [wt_node,wtL_append,wtL,List.length_nil]; omega))
 ·exact clauseO_wt hrec (by omega)
omit hrec in
theorem varsL_wt:∀ (f n:Nat),Ret (varsL S f n) fun _ m=>n≤m:=by
 intro f
 induction f with
 | zero=>intro n; exact ret_dry
 | succ f ih =>
  intro n
  unfold varsL
  exact ret_if (fun hc=>ret_bind (take_wt (n+1)) (fun _ m hm=>(ih m).mono fun _ m2 h=>by omega)) (fun _=>ret_ok (Nat.le_refl _))
omit hrec in
theorem typeNameO_wt (n:Nat):Ret (typeNameO S F n) fun x m=>n+1≤m:=by
 unfold typeNameO
 refine ret_if (fun h=>?_) (fun _=>ret_if (fun h=>?_) (fun _=>(take_wt n).mono fun x m hx=>by omega))
 ·exact (take_wt (n+1)).mono fun x m hx=>by omega
 ·refine ret_bind (take_wt (n+1)) (fun _ m hm=>?_)
  refine ret_bind (varsL_wt F m) (fun _ m2 h2=>?_)
  refine ret_bind (need_wt m2) (fun _ m3 h3=>?_)
  exact (take_wt m3).mono fun x m hx=>by omega
theorem conO_wt (n:Nat):Ret (conO S rec d n) fun b m=>b.wt+1+3 * n≤3 * m:=by
 unfold conO
 refine ret_bind (take_wt n) (fun x m hx=>ret_if (fun h=>?_) (fun _=>ret_ok (by simp only [wt_node,wtL,List.length_singleton]; omega)))
 exact ret_bind (hrec .ty (m+1) trivial) (fun b m2 hb=>ret_ok (by simp only [wt_node,wtL,List.length_singleton]; omega))
theorem dbindO_wt (n:Nat):Ret (dbindO S F rec d n) fun b m=>b.wt+1+3 * n≤3 * m:=by
 unfold dbindO
 refine ret_bind (typeNameO_wt n) (fun x m hx=>?_)
 refine ret_bind (need_wt m) (fun _ m2 h2=>?_)
 exact ret_bind (rowO_wt F (conO_wt hrec) m2) (fun l m3 hl=>ret_ok (by simp only [wt_node,List.length_singleton]; omega))
theorem datatypesO_wt {fr n:Nat} (hs:fr+1≤n):Ret (datatypesO S F rec d fr n) fun b m=>b.wt+1+3 * fr≤3 * m:=by
 unfold datatypesO
 exact ret_bind (rowO_wt F (dbindO_wt hrec) n) (fun l m hl=>ret_ok (by simp only [wt_node,List.length_nil]; omega))
theorem specO_wt (n:Nat):Ret (specO S F rec d n) fun b m=>b.wt+1+3 * n≤3 * m:=by
 unfold specO
 refine ret_if (fun h=>?_) (fun _=>ret_if (fun h=>?_) (fun _=>ret_if (fun h=>?_) (fun _=>ret_if (fun h=>?_) (fun _=>?_))))
 ·refine ret_bind (value_wt (n+1)) (fun x m hx=>?_)
  refine ret_bind (need_wt m) (fun _ m2 h2=>?_)
  exact ret_bind (hrec .ty m2 trivial) (fun b m3 hb=>ret_ok (by simp only [wt_node,wtL,List.length_singleton]; omega))
 ·refine ret_bind (typeNameO_wt (n+1)) (fun x m hx=>ret_if (fun h2=>?_) (fun _=>ret_ok (by simp only [wt_node,wtL,List.length_singleton]; omega)))
  exact ret_bind (hrec .ty (m+1) trivial) (fun b m3 hb=>ret_ok (by simp only [wt_node,wtL,List.length_singleton]; omega))
 ·exact datatypesO_wt hrec (by omega)
 ·refine ret_bind (take_wt (n+1)) (fun x m hx=>?_)
  refine ret_bind (need_wt m) (fun _ m2 h2=>?_)
  exact ret_bind (hrec .sig m2 trivial) (fun b m3 hb=>ret_ok (by simp only [wt_node,wtL,List.length_singleton]; omega))
 ·refine ret_bind (need_wt n) (fun _ m2 h2=>?_)
  exact ret_bind (hrec .sig m2 trivial) (fun b m3 hb=>ret_ok (by simp only [wt_node,wtL,List.length_nil]; omega))
theorem specsL_wt (p:Nat):∀ (f:Nat) (acc:List Pb) (n:Nat),wtL acc+acc.length+3 * p≤3 * n→Ret (specsL S F rec d f acc n) fun l m=>wtL l+l.length+3 * p≤3 * m:=by
 intro f
 induction f with
 | zero=>intro acc n _; exact ret_dry
 | succ f ih =>
  intro acc n h
  unfold specsL
  refine ret_if (fun hc=>ret_ok (by omega)) (fun _=>ret_if (fun hc=>ih _ _ (by omega)) (fun _=>?_))
  exact ret_bind (specO_wt hrec n) (fun b m hb=>ih _ _ (by simp only [wtL_append,wtL,List.length_append,List.length_singleton]; omega))
theorem bareSigO_wt (n:Nat):Ret (bareSigO S F rec d n) fun b m=>b.wt+1+3 * n≤3 * m:=by
 unfold bareSigO
 refine ret_if (fun h=>?_) (fun _=>ret_bind (take_wt n) (fun x m hx=>ret_ok (by simp only [wt_node,wtL,List.length_singleton]; omega)))
 exact ret_bind (specsL_wt hrec (n+1) F [] (n+1) (by simp [wtL])) (fun l m hl=>ret_ok (by simp only [wt_node,List.length_nil]; omega))
theorem whereL_wt (p:Nat):∀ (f:Nat) (b:Pb) (n:Nat),b.wt+1+3 * p≤3 * n→Ret (whereL S rec d p f b n) fun b m=>b.wt+1+3 * p≤3 * m:=by
 intro f
 induction f with
 | zero=>intro b n _; exact ret_dry
 | succ f ih =>
  intro b n h
  unfold whereL
  refine ret_if (fun hc=>?_) (fun _=>ret_ok h)
  refine ret_bind (need_wt (n+1)) (fun _ m h1=>?_)
  refine ret_bind (typePath_wt m) (fun p m2 hp=>?_)
  refine ret_bind (need_wt m2) (fun _ m3 h3=>?_)
  exact ret_bind (hrec .ty m3 trivial) (fun c m4 hb=>ih _ _ (by simp only [wt_node,wtL]; omega))
theorem sigO_wt (n:Nat):Ret (sigO S F rec d n) fun b m=>b.wt+1+3 * n≤3 * m:=by
 unfold sigO
 exact ret_bind (bareSigO_wt hrec n) (fun b m hb=>whereL_wt hrec n F b m hb)
theorem bareStrO_wt (n:Nat):Ret (bareStrO S F rec d n) fun b m=>b.wt+1+3 * n≤3 * m:=by
 unfold bareStrO
 refine ret_if (fun h=>?_) (fun _=>ret_if (fun h=>?_) (fun _=>ret_bind (path_wt n) (fun p m hp=>ret_ok (by simp only [wt_node,wtL]; omega))))
 ·refine ret_bind (decsO_wt hrec 1 (n+1)) (fun l m hl=>?_)
  exact ret_bind (need_wt m) (fun _ m2 h2=>ret_ok (by simp only [wt_node,List.length_nil]; omega))
 ·refine ret_bind (hrec .str (n+2) trivial) (fun b m hb=>?_)
  exact ret_bind (need_wt m) (fun _ m2 h2=>ret_ok (by simp only [wt_node,wtL,List.length_singleton]; omega))
theorem sealL_wt (p:Nat):∀ (f:Nat) (b:Pb) (n:Nat),b.wt+1+3 * p≤3 * n→Ret (sealL S rec d p f b n) fun b m=>b.wt+1+3 * p≤3 * m:=by
 intro f
 induction f with
 | zero=>intro b n _; exact ret_dry
 | succ f ih =>
  intro b n h
  unfold sealL
  refine ret_if (fun _=>ret_ok h) (fun hc=>?_)
  exact ret_bind (hrec .sig (n+1) trivial) (fun s m hs=>ih _ _ (by simp only [wt_marked,wt_node,wtL,List.length_nil]; omega))
theorem strO_wt (n:Nat):Ret (strO S F rec d n) fun b m=>b.wt+1+3 * n≤3 * m:=by
 unfold strO
 exact ret_bind (bareStrO_wt hrec n) (fun b m hb=>sealL_wt hrec n F b m hb)
theorem bodyO_wt (n:Nat):Ret (bodyO S rec d n) fun l m=>wtL l.2+l.2.length+3 * n≤3 * m:=by
 unfold bodyO
 refine ret_bind (P:=fun l m=>wtL l+l.length+3 * n≤3 * m) (ret_if (fun _=>ret_ok (by simp [wtL])) (fun hc=>?_)) (fun l m hl=>?_)
 ·exact ret_bind (hrec .sig (n+1) trivial) (fun s m hs=>ret_ok (by simp only [wtL,List.length_singleton]; omega))
 ·refine ret_bind (need_wt m) (fun _ m2 h2=>?_)
  exact ret_bind (hrec .str m2 trivial) (fun b m3 hb=>ret_ok (by simp only [wtL_append,wtL,List.length_append,List.length_singleton]; omega))
theorem structureO_wt {fr n:Nat} (hs:fr+1≤n):Ret (structureO S rec d fr n) fun b m=>b.wt+1+3 * fr≤3 * m:=by
 unfold structureO
 refine ret_bind (take_wt n) (fun x m hx=>?_)
 exact ret_bind (bodyO_wt hrec m) (fun l m2 hl=>ret_ok (by simp only [wt_marked,wt_node,List.length_singleton]; omega))
theorem functorO_wt {fr n:Nat} (hs:fr+1≤n):Ret (functorO S rec d fr n) fun b m=>b.wt+1+3 * fr≤3 * m:=by
 unfold functorO
 refine ret_bind (take_wt n) (fun x m hx=>?_)
 refine ret_bind (need_wt m) (fun _ m2 h2=>?_)
 refine ret_bind (take_wt m2) (fun y m3 hy=>?_)
 refine ret_bind (need_wt m3) (fun _ m4 h4=>?_)
 refine ret_bind (hrec .sig m4 trivial) (fun g m5 hg=>?_)
 refine ret_bind (need_wt m5) (fun _ m6 h6=>?_)
 exact ret_bind (bodyO_wt hrec m6) (fun l m7 hl=>ret_ok (by simp only [wt_marked,wt_node,wtL_append,wtL,List.length_cons,List.length_nil]; omega))
theorem funL_wt (p:Nat):∀ (f:Nat) (acc:List Pb) (n:Nat),wtL acc+acc.length+3 * p≤3 * n→Ret (funL S F rec d f acc n) fun l m=>wtL l+l.length+3 * p≤3 * m:=by
 intro f
 induction f with
 | zero=>intro acc n _; exact ret_dry
 | succ f ih =>
  intro acc n h
  unfold funL
  exact ret_if (fun _=>ret_bind (atomicPatO_wt hrec n) (fun b m hb=>ih _ _ (by simp only [wtL_append,wtL,List.length_append,List.length_singleton]; omega))) (fun _=>ret_ok h)
theorem functionO_wt (n:Nat):Ret (functionO S F rec d n) fun b m=>b.wt+1+3 * n≤3 * m:=by
 unfold functionO
 refine ret_bind (value_wt n) (fun x m hx=>?_)
 refine ret_bind (atomicPatO_wt hrec m) (fun b m2 hb=>?_)
 refine ret_bind (funL_wt hrec m F [b] m2 (by simp [wtL]; omega)) (fun l m3 hl=>?_)
 refine ret_bind (need_wt m3) (fun _ m4 h4=>?_)
 exact ret_bind (hrec .exp m4 trivial) (fun e m5 he=>ret_ok (by simp only [wt_node,wtL_append,wtL,List.length_singleton]; omega))
theorem localO_wt {fr n:Nat} (hs:fr+1≤n) (a:Nat):Ret (localO S F rec d fr a n) fun b m=>b.wt+1+3 * fr≤3 * m:=by
 unfold localO
 refine ret_bind (withinO_wt hrec a n) (fun x m hx=>?_)
 refine ret_bind (need_wt m) (fun _ m2 h2=>?_)
 refine ret_bind (withinO_wt hrec a m2) (fun y m3 hy=>?_)
 exact ret_bind (need_wt m3) (fun _ m4 h4=>ret_ok (by simp only [wt_node,wtL,List.length_nil]; omega))
theorem decO_wt (a n:Nat):Ret (decO S F rec d a n) fun b m=>b.wt+1+3 * n≤3 * m:=by
 unfold decO
 refine ret_if (fun h=>?_) (fun q1=>ret_if (fun h=>?_) (fun q2=>ret_if (fun h=>?_) (fun q3=>ret_if (fun h=>?_) (fun q4=>ret_if (fun h=>?_) (fun q5=>ret_if (fun h=>?_) (fun q6=>ret_if (fun h=>?_) (fun q7=>ret_if (fun h=>?_) (fun q8=>?_))))))))
 ·refine ret_bind (hrec .pat (n+1) trivial) (fun p m hp=>?_)
  refine ret_bind (need_wt m) (fun _ m2 h2=>?_)
  exact ret_bind (hrec .exp m2 trivial) (fun e m3 he=>ret_ok (by simp only [wt_node,wtL,List.length_nil]; omega))
 ·exact ret_bind (rowO_wt F (functionO_wt hrec) (n+1)) (fun l m hl=>ret_ok (by simp only [wt_node,List.length_nil]; omega))
 ·refine ret_bind (typeNameO_wt (n+1)) (fun x m hx=>?_)
  refine ret_bind (need_wt m) (fun _ m2 h2=>?_)
  exact ret_bind (hrec .ty m2 trivial) (fun b m3 hb=>ret_ok (by simp only [wt_node,wtL,List.length_singleton]; omega))
 ·exact datatypesO_wt hrec (by omega)
 ·exact structureO_wt hrec (by omega)
 ·refine ret_bind (take_wt (n+1)) (fun x m hx=>?_)
  refine ret_bind (need_wt m) (fun _ m2 h2=>?_)
  exact ret_bind (hrec .sig m2 trivial) (fun b m3 hb=>ret_ok (by simp only [wt_node,wtL,List.length_singleton]; omega))
 ·exact functorO_wt hrec (by omega)
 ·exact ret_bind (path_wt (n+1)) (fun p m hp=>ret_ok (by simp only [wt_node,wtL]; omega))
 ·exact localO_wt hrec (by omega) a
end

theorem parts_wt:∀ (f:Nat) (nt:Nt) (d n:Nat),S.may nt n→Ret (parts S f nt d n) fun b m=>b.wt+1+3 * n≤3 * m:=by
 intro f
 induction f with
 | zero=>intro nt d n _; exact ret_dry
 | succ f ih =>
  intro nt d n hm
  unfold parts
  refine ret_if (fun _=>ret_deep) (fun _=>?_)
  have hrec:∀ nt k,S.may nt k→Ret (parts S f nt (d+1) k) fun b m=>b.wt+1+3 * k≤3 * m:=fun nt k hk=>ih nt (d+1) k hk
  cases nt with
  | exp=>exact expO_wt hrec n
  | pat=>exact patO_wt hrec n
  | ty=>exact tyO_wt hrec n
  | sig=>exact sigO_wt hrec n
  | str=>exact strO_wt hrec n
  | dec a=>exact decO_wt hrec a n
theorem fileO_wt (F:Nat):Ret (fileO S F 0) fun b m=>b.wt≤3 * m+1:=by
 unfold fileO
 exact ret_bind (decsO_wt (F:=F) (rec:=parts S F) (d:=0) (fun nt k hk=>parts_wt F nt 0 k hk) 2 0) (fun l m hl=>ret_ok (by simp only [wt_node,List.length_nil]; omega))
end
end Go.Proofs.YtmpmfamiegpmgaaGreatDoor

namespace Go.Proofs.YtmpmfamiegpmgaaGreatDoor
open Go.RowKit
set_option maxRecDepth 20000
set_option linter.unusedVariables false
set_option linter.unusedSimpArgs false

theorem ext_list (s:ByteArray) (a e:Nat):(s.extract a e).data.toList=(s.data.toList.take e).drop a:=by
 rw [ByteArray.data_extract,Array.toList_extract,List.extract_eq_take_drop,List.drop_take]
theorem bytes_ext {s t:ByteArray} (h:s.data.toList=t.data.toList):s=t:=by
 cases s; cases t; simp only at h; congr 1; exact Array.ext' h
end Go.Proofs.YtmpmfamiegpmgaaGreatDoor
