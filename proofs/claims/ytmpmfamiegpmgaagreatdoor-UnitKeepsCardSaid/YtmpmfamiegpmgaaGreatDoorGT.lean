/-
  A branch's parts in order; how few they are; what is known of a file that is read.; Of which space the names of a part are: how many it may have, and which tokens they may be.; The plain parser's branches have as many names as their kinds may have, and each name is a word, a cap or a sign as its space asks.; A walk over a branch's parts, each ahead of its kids: for any function that takes them one by one.; Contracts of the library, laid.
-/
import Derived.Test.YtmpmfamiegpmgaaGreatDoorGK
import Derived.Test.YtmpmfamiegpmgaaGreatDoorGS
import Derived.Test.YtmpmfamiegpmgaaGreatDoorGF
import Derived.Shelf.Sort.Plain
import Derived.Ground.Names2Prog
import Derived.Ground.SlgnProg
import Derived.Test.YtmpmfamiegpmgaaGreatDoorProg
namespace Go.Proofs.YtmpmfamiegpmgaaGreatDoor
open Go.RowKit
set_option maxRecDepth 20000
set_option linter.unusedVariables false
set_option linter.unusedSimpArgs false
mutual
def Br.Few:Br→Prop
 | .mk h ks=>h.ns.length≤1000000∧ks.length≤1000000∧wF ks
def wF:List Br→Prop
 | []=>True
 | b :: r=>b.Few∧wF r
end
theorem lu (ks:List Br):wF ks ↔ ∀ b ∈ ks,b.Few:=by
 induction ks with
 | nil=>simp [wF]
 | cons x r ih=>simp [wF,ih]
theorem P9 {l:List Pb} {b:Pb} (h:b ∈ l):b.wt≤wtL l:=by
 induction l with
 | nil=>cases h
 | cons x r ih =>
  simp only [wtL]
  rcases List.mem_cons.1 h with rfl | h
  ·omega
  ·have:=ih h; omega
theorem Uu (b:Pb):1≤b.wt:=by cases b; simp only [Pb.wt]; omega
theorem QC (l:List Pb):l.length≤wtL l:=by
 induction l with
 | nil=>simp
 | cons x r ih=>have:=Uu x; simp only [wtL,List.length_cons]; omega
theorem yQ (y:Br):y.pb.wt≤1000000→y.Few:=by
 induction y using Br.ind with
 | hP h ks ih =>
  intro hw;simp only [Br.pb,Pb.wt,eQ] at hw;have h1:=QC (ks.map Br.pb);rw [List.length_map] at h1;simp only [Br.Few,lu];refine ⟨by omega,by omega,fun b hb=>ih b hb ?_⟩
  have:=P9 (List.mem_map.2 ⟨b,hb,rfl⟩:b.pb ∈ ks.map Br.pb)
  omega
theorem Du (w:World) (h:Hd) (t:TypeId):dV (w.alloc (.cells #[.int .i64 h.k,.int .i64 h.m,.int .i64 h.f,.int .i64 h.t,.slice h.np h.nn h.nc,.slice h.kp h.kn h.kc] t)) w.heap.size 0 h:=by
 have hb:=heap_alloc_new w (.cells #[.int .i64 h.k,.int .i64 h.m,.int .i64 h.f,.int .i64 h.t,.slice h.np h.nn h.nc,.slice h.kp h.kn h.kc] t);refine ⟨?_,?_,?_,?_,?_,?_⟩ <;> (rw [Lib.cell_of_heap hb]; rfl)
theorem dV.box {w:World} {b:Nat} {h:Hd} (hat:dV w b 0 h):w.cell? ⟨b,0,none⟩=some (.int .i64 h.k)∧w.cell? ⟨b,1,none⟩=some (.int .i64 h.m)∧w.cell? ⟨b,2,none⟩=some (.int .i64 h.f) ∧
  w.cell? ⟨b,3,none⟩=some (.int .i64 h.t)∧w.cell? ⟨b,4,none⟩=some (.slice h.np h.nn h.nc)∧w.cell? ⟨b,5,none⟩=some (.slice h.kp h.kn h.kc):=by
 simpa [dV] using hat
abbrev Hd.obj (h:Hd):Obj:=.cells #[.int .i64 h.k,.int .i64 h.m,.int .i64 h.f,.int .i64 h.t,.slice h.np h.nn h.nc,.slice h.kp h.kn h.kc] 96
mutual
def Br.flatB:Br→List Br
 | .mk h ks=>.mk h ks :: bC ks
def bC:List Br→List Br
 | []=>[]
 | b :: r=>b.flatB++bC r
end
theorem qA (a b:List Br):bC (a++b)=bC a++bC b:=by
 induction a with
 | nil=>rfl
 | cons x r ih=>simp [bC,ih]
theorem qf (b:Br):1≤b.flatB.length:=by cases b; simp [Br.flatB]
def nmK (k:Int):Bool:=k == 6 || k == 7 || k == 9
structure UC (s:ByteArray) (x:Pb) (n:Nat):Prop where
 rt:x.Rt
 fr:x.fr=0
 to:x.to=(n:Int)
 len:n+1=(aO s).length
 wt:x.wt≤3 * n+1
 one:∀ y,x.cnt y≤1
 inn:∀ y,0 < x.cnt y→0≤y∧y < (n:Int)
 nm:∀ (y:Nat) (h:y < (aO s).length),0 < x.cnt (y:Int)→nmK (aO s)[y].k=true
 all:∀ (y:Nat) (h:y < (aO s).length),x.cnt (y:Int)=0→nmK (aO s)[y].k=true→s.extract (aO s)[y].a (aO s)[y].e=⟨#[42]⟩
theorem He {S:Src} (g:S.Good) (T:S.ts=aO S.s) {x:Pb} {n:Nat} (h:fF S (jG S)=.ok x n):UC S.s x n:=by
 have hf:=uk g (F:=fuel S) (Nat.le_refl _) (Ol S T);unfold fF jG at h
 cases hx:jk S (fuel S) 0 with
 | ok y k =>
  rw [hx] at h hf;have hk:k < S.ts.length:=hf.2;simp only [Out.bind] at h
  cases hz:(S.kd k == 0)
  ·rw [hz] at h; cases h
  ·rw [hz] at h
   simp only [cond_true] at h
   injection h with e1 e2
   subst e1 e2;have hend:=(g.fin k hk).1 (by rw [← S.kd_at hk]; exact beq_iff_eq.1 hz);have q:=MS T (fuel S) y k hx;have hft:y.fr=0∧y.to=(k:Int):=by
    unfold jk at hx
    cases hd:gZ S (fuel S) (parts S (fuel S)) 0 2 0 with
    | ok l m =>
     rw [hd] at hx;simp only [Out.bind] at hx
     injection hx with e1 e2
     subst e1 e2;exact ⟨rfl,rfl⟩
    | form m=>rw [hd] at hx; cases hx
    | deep m=>rw [hd] at hx; cases hx
    | dry=>rw [hd] at hx; cases hx
   have hnm:∀ (z:Nat) (hz:z < S.ts.length),S.nm z=nmK S.ts[z].k:=fun z hz=>by
    unfold Src.nm nmK; rw [S.kd_at hz]
   refine ⟨q.rt,hft.1,hft.2,by rw [← T]; exact hend,OJ (fuel S) y k hx,q.cov.one,fun z hz=>by have:=q.cov.inn z hz; omega,fun z hz hc=>?_,fun z hz hc hn=>?_⟩
   ·have:=q.cov.nm z hc
    rw [hnm z (by rw [T]; exact hz)] at this
    simpa only [T] using this
   ·have hz2:z < S.ts.length:=by rw [T]; exact hz
    have h1:nmK S.ts[z].k=true:=by simpa only [T] using hn
    have hlt:z < k:=by
     rcases Nat.lt_or_ge z k with h | h
     ·exact h
     ·have e:z=k:=by omega
      subst e
      have:=(g.fin z hz2).2 hend
      rw [this] at h1; exact absurd h1 (by decide)
    rcases hs:S.is z [42] with _ | _
    ·have:=q.cov.all z (by omega) hlt (by rw [hnm z hz2]; exact h1) hs
     exact absurd hc (Nat.ne_of_gt this)
    ·have h2:S.s.extract (aO S.s)[z].a (aO S.s)[z].e=S.tx z:=by rw [S.tx_at hz2]; simp only [T]
     rw [h2]
     apply IK
     simpa [Src.is] using hs
 | form k=>rw [hx] at h; cases h
 | deep k=>rw [hx] at h; cases h
 | dry=>rw [hx] at h; cases h
def vF (x:Int):List Br→Nat
 | []=>0
 | b :: r=>b.h.ns.count x+vF x r
theorem BZ (x:Int) (a b:List Br):vF x (a++b)=vF x a+vF x b:=by
 induction a with
 | nil=>simp [vF]
 | cons y r ih=>simp only [List.cons_append,vF,ih]; omega
theorem zx (x:Int) (b:Br):vF x b.flatB=b.pb.cnt x:=by
 induction b using Br.ind with
 | hP h ks ih =>
  have:vF x (bC ks)=pK x (ks.map Br.pb):=by
   clear h
   induction ks with
   | nil=>rfl
   | cons y r ih2 =>
    simp only [bC,BZ,List.map_cons,pK];rw [ih y (by simp),ih2 (fun z hz=>ih z (by simp [hz]))]
  simp only [Br.flatB,vF,Br.h,Br.pb,Pb.cnt,eQ,this]
theorem uI {y:Br} {ks:List Br} (h:y ∈ bC ks):∃ k ∈ ks,y ∈ k.flatB:=by
 induction ks with
 | nil=>cases h
 | cons z r ih =>
  simp only [bC] at h
  rcases List.mem_append.1 h with h | h
  ·exact ⟨z,by simp,h⟩
  ·obtain ⟨k,h1,h2⟩:=ih h
   exact ⟨k,by simp [h1],h2⟩
theorem Qx (b:Br):b.flatB.length≤b.pb.wt:=by
 induction b using Br.ind with
 | hP h ks ih =>
  have:(bC ks).length≤wtL (ks.map Br.pb):=by
   clear h
   induction ks with
   | nil=>simp [bC]
   | cons y r ih2 =>
    simp only [bC,List.length_append,List.map_cons,wtL]
    have:=ih y (by simp)
    have:=ih2 (fun z hz=>ih z (by simp [hz]))
    omega
  simp only [Br.flatB,List.length_cons,Br.pb,Pb.wt,eQ]
  omega
def pre (x:Int) (F:List Br) (i:Nat) (ns:List Int):Nat:=vF x (F.take i)+ns.count x
def iZ (k:Int):Int :=
 bif k == 5 || k == 39 || k == 40 || k == 22 then 1 else bif k == 6 || k == 8 || k == 23 then 3 else bif k == 9 then 2 else bif k == 10 || k == 24 then 4 else bif k == 11 then 5 else 0
def kM (k:Int):Bool:=k == 13 || k == 16 || k == 28 || k == 29 || k == 42 || k == 21
def rE (k:Int):Int:=bif k == 28 then 1 else bif k == 29 then 2 else bif k == 42 || k == 21 then 3 else 4
def kR (k:Int) (n:Nat):Bool :=
 bif !(iZ k == 0) || k == 20 || k == 17 then n == 1 else bif k == 12 then n == 2 else bif kM k || k == 37 then !(n == 0) else n == 0
def ji (k:Int) (i n:Nat):Int × Bool :=
 bif !(iZ k == 0) then (iZ k,true)
 else bif k == 12 then (bif i == 0 then (6,true) else (4,true))
 else bif k == 37 then (1,false) else bif k == 20 then (5,false) else bif k == 17 then (6,false)
 else bif kM k then (bif i+1 == n then (rE k,false) else (4,false)) else (0,false)
def okK (sp tk:Int):Bool:=bif sp == 1 then tk == 6 || tk == 9 else bif sp == 3 then tk == 6 else tk == 7
def Au (S:Src) (k:Int) (ns:List Int):Prop:=(1≤k∧k≤44)∧kR k ns.length=true∧∀ i,(h:i < ns.length)→okK (ji k i ns.length).1 (S.kd ns[i].toNat)=true
mutual
def Pb.Fit (S:Src):Pb→Prop
 | .mk k _ _ _ ns ks=>Au S k ns∧iP S ks
def iP (S:Src):List Pb→Prop
 | []=>True
 | b :: r=>b.Fit S∧iP S r
end
theorem BQ (S:Src) (l:List Pb):iP S l ↔ ∀ b ∈ l,b.Fit S:=by
 induction l with
 | nil=>simp [iP]
 | cons x r ih=>simp [iP,ih]
section
variable {S:Src}
theorem iP.nil:iP S []:=trivial
theorem iP.cat {a b:List Pb} (h:iP S a) (g:iP S b):iP S (a++b):=by
 rw [BQ] at *;intro x hx;exact (List.mem_append.1 hx).elim (h x) (g x)
theorem iP.one {b:Pb} (h:b.Fit S):iP S [b]:=⟨h,trivial⟩
theorem aQ {k:Int} {f t:Nat} {ns:List Nat} {l:List Pb} (hn:Au S k (ns.map fun x:Nat=>(x:Int))) (hl:iP S l):(node k f t ns l).Fit S:=⟨hn,hl⟩
theorem rC {m:Int} {b:Pb} (h:b.Fit S):(marked m b).Fit S:=by
 cases b; exact h
theorem dH {k:Int} (h:kR k 0=true) (hb:1≤k∧k≤44:=by decide):Au S k (([]:List Nat).map fun x:Nat=>(x:Int)):=⟨hb,h,fun i hi=>by cases hi⟩
theorem gK {k:Int} {x:Nat} (h:kR k 1=true) (hx:okK (ji k 0 1).1 (S.kd x)=true) (hb:1≤k∧k≤44:=by decide):Au S k ([x].map fun x:Nat=>(x:Int)) :=
 ⟨hb,h,fun i hi=>by
  have:i=0:=by simpa using hi
  subst this; exact hx⟩
theorem oQ {k:Int} {p:List Nat} {x:Nat} (hk:kM k=true) (ho:iZ k=0) (h12:(k == 12)=false) (h37:(k == 37)=false) (h20:(k == 20)=false) (h17:(k == 17)=false) (hp:∀ y ∈ p,S.kd y=7) (hx:okK (rE k) (S.kd x)=true) (hb:1≤k∧k≤44:=by decide) :
  Au S k ((p++[x]).map fun x:Nat=>(x:Int)):=by
 refine ⟨hb,?_,fun i hi=>?_⟩
 ·simp [kR,ho,h12,h20,h17,hk]
 ·simp only [List.length_map,List.length_append,List.length_singleton] at hi
  simp only [ji,ho,h12,h37,h20,h17,hk,beq_self_eq_true,Bool.not_true,cond_false,cond_true,List.length_map,List.length_append,List.length_singleton,List.getElem_map,Int.toNat_natCast]
  by_cases he:i=p.length
  ·subst he
   simp only [beq_self_eq_true,cond_true,List.getElem_append_right (Nat.le_refl _),Nat.sub_self,List.getElem_cons_zero];exact hx
  ·have hb:(i+1 == p.length+1)=false:=by simp; omega
   rw [hb,cond_false];rw [List.getElem_append_left (by omega)]
   have:=hp _ (List.getElem_mem (by omega:i < p.length))
   rw [this]; rfl
theorem JA {ns:List Nat} (h0:ns≠[]) (h:∀ x ∈ ns,S.kd x=9):Au S 37 (ns.map fun x:Nat=>(x:Int)):=by
 refine ⟨by decide,?_,fun i hi=>?_⟩
 ·have:ns.length≠0:=fun e=>h0 (List.length_eq_zero_iff.1 e)
  simp [kR,iZ,kM,this]
 ·have hi':i < ns.length:=by simpa using hi
  have:=h _ (List.getElem_mem hi')
  simp only [List.getElem_map,Int.toNat_natCast,this]
  rfl
theorem uC {k:Int} {n m:Nat} {l:List Pb} (hk:kR k 0=true) (h:iP S l) (hb:1≤k∧k≤44:=by decide):(fJ l k n m []).Fit S:=by
 unfold fJ
 split
 ·exact h.1
 ·exact aQ (dH hk hb) h
def PF (S:Src) (ks:List Int) (l:List Nat):Prop:=∃ p x,l=p++[x]∧(∀ y ∈ p,S.kd y=7)∧ks.contains (S.kd x)=true
theorem Ad {ks:List Int} (n:Nat):Ret (S.take ks n) fun x m=>x=n∧m=n+1∧ks.contains (S.kd x)=true:=by
 unfold Src.take;exact ax (fun h=>ai ⟨rfl,rfl,h⟩) (fun _=>jq)
theorem gB {k:Int} (n:Nat):Ret (S.take [k] n) fun x m=>S.kd x=k:=(Ad n).mono fun x m h=>by simpa using h.2.2
theorem dD {t:List UInt8} (n:Nat):Ret (S.need t n) fun _ _=>True:=fun _ _ _=>trivial
theorem NP {ks:List Int}:∀ (f:Nat) (acc:List Nat) (n:Nat),(∃ p x,acc=p++[x]∧x+1=n∧(∀ y ∈ p,S.kd y=7)∧ks.contains (S.kd x)=true)→Ret (S.pathL ks f acc n) fun l m=>∃ p x,l=p++[x]∧x+1=m∧(∀ y ∈ p,S.kd y=7)∧ks.contains (S.kd x)=true:=by
 intro f
 induction f with
 | zero=>intro acc n _; exact bP
 | succ f ih =>
  intro acc n h;unfold Src.pathL;refine ax (fun hc=>?_) (fun _=>ai h)
  simp only [Bool.and_eq_true,beq_iff_eq] at hc;obtain ⟨p,x,rfl,rfl,hp,hx⟩:=h;refine af (Ad (x+1+1)) (fun y m hy=>ih _ _ ⟨p++[x],y,rfl,by omega,fun z hz=>?_,hy.2.2⟩)
  rcases List.mem_append.1 hz with hz | hz
  ·exact hp z hz
  ·have:z=x:=by simpa using hz
   rw [this]; exact hc.1
theorem Aw {ks:List Int} (n:Nat):Ret (S.path ks n) fun l m=>∃ p x,l=p++[x]∧x+1=m∧(∀ y ∈ p,S.kd y=7)∧ks.contains (S.kd x)=true:=by
 unfold Src.path;exact af (Ad n) (fun x m hx=>NP _ _ _ ⟨[],x,rfl,by omega,fun y hy=>(by cases hy),hx.2.2⟩)
theorem tN (n:Nat):Ret (S.path [7] n) fun l m=>∃ p x,l=p++[x]∧(∀ y ∈ p,S.kd y=7)∧S.kd x=7 :=
 (Aw n).mono fun l m ⟨p,x,h1,_,h2,h3⟩=>⟨p,x,h1,h2,by simpa using h3⟩
theorem lS (n:Nat):Ret (S.typePath n) fun l m=>∃ p x,l=p++[x]∧(∀ y ∈ p,S.kd y=7)∧S.kd x=6:=by
 unfold Src.typePath;refine af (Aw n) (fun l m ⟨p,x,h1,h2,h3,h4⟩=>ax (fun hc=>ai ⟨p,x,h1,h3,?_⟩) (fun _=>jq))
 rw [← h2,Nat.add_sub_cancel] at hc
 simpa using hc
theorem F7 {l:List Nat} (h:∃ p x,l=p++[x]∧(∀ y ∈ p,S.kd y=7)∧S.kd x=6):Au S 42 (l.map fun x:Nat=>(x:Int)):=by
 obtain ⟨p,x,rfl,h1,h2⟩:=h;exact oQ rfl rfl rfl rfl rfl rfl h1 (by rw [h2]; rfl)
theorem JL {l:List Nat} (h:∃ p x,l=p++[x]∧(∀ y ∈ p,S.kd y=7)∧S.kd x=6):Au S 21 (l.map fun x:Nat=>(x:Int)):=by
 obtain ⟨p,x,rfl,h1,h2⟩:=h;exact oQ rfl rfl rfl rfl rfl rfl h1 (by rw [h2]; rfl)
theorem zG {k:Int} {l:List Nat} (hk:k=13∨k=16∨k=29) (h:∃ p x,l=p++[x]∧(∀ y ∈ p,S.kd y=7)∧S.kd x=7):Au S k (l.map fun x:Nat=>(x:Int)):=by
 obtain ⟨p,x,rfl,h1,h2⟩:=h
 rcases hk with rfl | rfl | rfl <;> exact oQ rfl rfl rfl rfl rfl rfl h1 (by rw [h2]; rfl)
theorem xY (n:Nat):Ret (S.value n) fun x m=>S.kd x=6∨S.kd x=9:=by
 unfold Src.value;exact ax (fun h=>(gB (n+1)).mono fun x m hx=>.inr hx) (fun _=>(gB n).mono fun x m hx=>.inl hx)
theorem mV {x:Nat} (h:S.kd x=6∨S.kd x=9):okK 1 (S.kd x)=true:=by rcases h with h | h <;> rw [h] <;> rfl
theorem Rk {mark:List UInt8} {read:Nat→Out Pb} (hr:∀ k,Ret (read k) fun b m=>b.Fit S):∀ (f:Nat) (acc:List Pb) (n:Nat),iP S acc→Ret (lJ S mark read f acc n) fun l m=>iP S l:=by
 intro f
 induction f with
 | zero=>intro acc n _; exact bP
 | succ f ih =>
  intro acc n h;unfold lJ;refine ax (fun hc=>?_) (fun _=>ai h)
  exact af (hr (n+1)) (fun b m hb=>ih _ _ (h.cat (.one hb)))
theorem nO (F:Nat) {mark:List UInt8} {read:Nat→Out Pb} (hr:∀ k,Ret (read k) fun b m=>b.Fit S) (n:Nat):Ret (gI S F mark read n) fun l m=>iP S l:=by
 unfold gI;exact af (hr n) (fun b m hb=>Rk hr F [b] m (.one hb))
section
variable {F:Nat} {rec:Nt→Nat→Nat→Out Pb} {d:Nat} (hrec:∀ nt k,S.may nt k→Ret (rec nt d k) fun b m=>b.Fit S)
include hrec
theorem Ap (n:Nat):Ret (dF S F rec d n) fun b m=>b.Fit S:=by
 unfold dF;refine ax (fun h=>ai (aQ (dH rfl) .nil)) (fun _=>ax (fun h=>?_) (fun _=>?_))
 ·refine af (nO F (fun k=>hrec .ty k trivial) (n+1)) (fun l m hl=>?_)
  refine af (dD m) (fun _ m2 h2=>?_)
  unfold qB
  split
  ·exact ai hl.1
  ·exact af (lS m2) (fun p m3 hp=>ai (aQ (F7 hp) hl))
 ·exact af (lS n) (fun p m3 hp=>ai (aQ (F7 hp) .nil))
theorem Ed (n:Nat):∀ (f:Nat) (b:Pb) (m:Nat),b.Fit S→Ret (dG S n f b m) fun b m=>b.Fit S:=by
 have _:=hrec;intro f
 induction f with
 | zero=>intro b m _; exact bP
 | succ f ih =>
  intro b m h;unfold dG;exact ax (fun _=>af (lS m) (fun p m1 hp=>ih _ _ (aQ (F7 hp) (.one h)))) (fun _=>ai h)
theorem Dv (n:Nat):Ret (cZ S F rec d n) fun b m=>b.Fit S:=by
 unfold cZ;exact af (Ap hrec n) (fun b m hb=>Ed hrec n F b m hb)
theorem CY (n:Nat):Ret (dS S F rec d n) fun b m=>b.Fit S:=by
 unfold dS;exact af (nO F (Dv hrec) n) (fun l m hl=>ai (uC rfl hl))
theorem UT (n:Nat):Ret (tyO S F rec d n) fun b m=>b.Fit S:=by
 unfold tyO;refine af (CY hrec n) (fun b m hb=>ax (fun h=>?_) (fun _=>ai hb))
 exact af (hrec .ty (m+1) trivial) (fun c m2 hc=>ai (aQ (dH rfl) ⟨hb,hc,trivial⟩))
omit hrec in
theorem IU {fr n:Nat} {member:Nat→Out Pb} (hm:∀ k,Ret (member k) fun b m=>b.Fit S):Ret (iy S F fr member n) fun b m=>b.Fit S:=by
 unfold iy;refine ax (fun h=>ai (aQ (dH rfl) .nil)) (fun _=>?_)
 refine af (nO F hm n) (fun l m hl=>?_)
 exact af (dD m) (fun _ m2 h2=>ai (uC rfl hl))
omit hrec in
theorem zu {named:Int} (hn:named=28∨named=39) {member:Nat→Out Pb} (hm:∀ k,Ret (member k) fun b m=>b.Fit S) (n:Nat):Ret (plainO S F named member n) fun b m=>b.Fit S:=by
 unfold plainO;refine ax (fun h=>ai (aQ (dH rfl) .nil)) (fun _=>ax (fun h=>ai (aQ (dH rfl) .nil)) (fun _=>ax (fun h=>?_) (fun _=>?_)))
 ·exact IU hm
 ·refine af (xY n) (fun x m hx=>ai (aQ ?_ .nil))
  rcases hn with rfl | rfl
  ·exact oQ (p:=[]) rfl rfl rfl rfl rfl rfl (fun y hy=>by cases hy) (mV hx)
  ·exact gK rfl (mV hx)
theorem jV (n:Nat):Ret (bQ S F rec d n) fun b m=>b.Fit S:=by
 unfold bQ;refine ax (fun h=>ai (aQ (dH rfl) .nil)) (fun _=>ax (fun _=>?_) (fun _=>zu (.inr rfl) (fun k=>hrec .pat k trivial) n))
 exact af (tN n) (fun p m hp=>ai (aQ (zG (.inr (.inr rfl)) hp) .nil))
theorem Qo (n:Nat):Ret (oH S F rec d n) fun b m=>b.Fit S:=by
 unfold oH;refine ax (fun h=>?_) (fun _=>ax (fun _=>?_) (fun _=>jV hrec n))
 ·simp only [Bool.and_eq_true,beq_iff_eq] at h
  exact af (hrec .pat (n+2) trivial) (fun b m hb=>ai (aQ (gK rfl (mV (.inl h.1))) (.one hb)))
 ·refine af (tN n) (fun p m hp=>ax (fun _=>?_) (fun _=>ai (aQ (zG (.inr (.inr rfl)) hp) .nil)))
  exact af (jV hrec m) (fun b m2 hb=>ai (aQ (zG (.inr (.inr rfl)) hp) (.one hb)))
theorem Mc (a:Nat):∀ (f:Nat) (acc:List Pb) (n:Nat),iP S acc→Ret (jE S rec d a f acc n) fun l m=>iP S l:=by
 intro f
 induction f with
 | zero=>intro acc n _; exact bP
 | succ f ih =>
  intro acc n h;unfold jE;refine ax (fun hc=>ih _ _ h) (fun _=>ax (fun hd=>?_) (fun _=>ai h))
  exact af (hrec (.dec a) n hd) (fun b m hb=>ih _ _ (h.cat (.one hb)))
theorem yw (a n:Nat):Ret (gZ S F rec d a n) fun l m=>iP S l:=Mc hrec a F [] n .nil
theorem qQ (a n:Nat):Ret (fA S F rec d a n) fun b m=>b.Fit S:=by
 unfold fA;exact af (yw hrec a n) (fun l m hl=>ai (aQ (dH rfl) hl))
theorem Eu (n:Nat):Ret (iE S F rec d n) fun b m=>b.Fit S:=by
 unfold iE;refine ax (fun _=>?_) (fun _=>ax (fun h=>?_) (fun _=>zu (.inl rfl) (fun k=>hrec .exp k trivial) n))
 ·refine af (Aw n) (fun l m ⟨p,x,h1,h2,h3,h4⟩=>?_)
  have hm:m - 1=x:=by omega
  rw [hm];refine ax (fun hc=>ai (aQ (zG (.inr (.inr rfl)) ⟨p,x,h1,h3,by simpa using hc⟩) .nil)) (fun hc=>ai (aQ ?_ .nil))
  rw [h1];refine oQ rfl rfl rfl rfl rfl rfl h3 (mV (.inl ?_))
  have hc':S.kd x≠7:=by simpa using hc
  have h4':S.kd x=7∨S.kd x=6:=by simpa using h4
  exact h4'.resolve_left hc'
 ·refine af (qQ hrec 0 (n+1)) (fun ds m hd=>?_)
  refine af (dD m) (fun _ m2 h2=>?_)
  refine af (hrec .exp m2 trivial) (fun e m3 he=>?_)
  exact af (dD m3) (fun _ m4 h4=>ai (aQ (dH rfl) ⟨hd,he,trivial⟩))
theorem Oy:∀ (f:Nat) (acc:List Pb) (n:Nat),iP S acc→Ret (jc S F rec d f acc n) fun l m=>iP S l:=by
 intro f
 induction f with
 | zero=>intro acc n _; exact bP
 | succ f ih =>
  intro acc n h;unfold jc;exact ax (fun _=>af (Eu hrec n) (fun b m hb=>ih _ _ (h.cat (.one hb)))) (fun _=>ai h)
theorem Em (n:Nat):Ret (jD S F rec d n) fun b m=>b.Fit S:=by
 unfold jD;refine af (Eu hrec n) (fun b m hb=>?_)
 exact af (Oy hrec F [b] m (.one hb)) (fun l m2 hl=>ai (uC rfl hl))
theorem Kr:∀ (f:Nat) (sg:List Nat) (acc:List Pb) (n:Nat),(acc.length=sg.length+1∧(∀ x ∈ sg,S.kd x=9)∧iP S acc)→Ret (iO S F rec d f sg acc n) fun l m=>l.2.length=l.1.length+1∧(∀ x ∈ l.1,S.kd x=9)∧iP S l.2:=by
 intro f
 induction f with
 | zero=>intro sg acc n _; exact bP
 | succ f ih =>
  intro sg acc n h;unfold iO;refine ax (fun _=>?_) (fun _=>ai h)
  refine af (gB n) (fun x m hx=>af (Em hrec m) (fun b m2 hb=>ih _ _ _ ?_))
  obtain ⟨h1,h2,h3⟩:=h;refine ⟨by simp only [List.length_append,List.length_singleton]; omega,fun y hy=>?_,h3.cat (.one hb)⟩
  rcases List.mem_append.1 hy with hy | hy
  ·exact h2 y hy
  ·have:y=x:=by simpa using hy
   rw [this]; exact hx
theorem Kt (n:Nat):Ret (gz S F rec d n) fun b m=>b.Fit S:=by
 unfold gz;refine af (Em hrec n) (fun b m hb=>?_)
 refine af (Kr hrec F [] [b] m ⟨rfl,fun x hx=>(by cases hx),.one hb⟩) (fun l m2 hl=>ai ?_)
 obtain ⟨sg,ks⟩:=l;obtain ⟨h1,h2,h3⟩:=hl;have h1:ks.length=sg.length+1:=h1;have h3:iP S ks:=h3
 show (fJ ks 37 n m2 sg).Fit S
 unfold fJ
 split
 ·exact h3.1
 ·next hne =>
  refine aQ (JA (fun e=>?_) h2) h3
  subst e
  match ks,h1,hne with
  | [a],_,hne=>exact hne a rfl
theorem wX {k:Int} (hk:kR k 0=true) {fr n:Nat} (hb:1≤k∧k≤44:=by decide):Ret (fB S rec d k fr n) fun b m=>b.Fit S:=by
 unfold fB;refine af (hrec .pat n trivial) (fun p m hp=>?_)
 refine af (dD m) (fun _ m2 h2=>?_)
 exact af (hrec .exp m2 trivial) (fun e m3 he=>ai (aQ (dH hk hb) ⟨hp,he,trivial⟩))
theorem Qg (n:Nat):Ret (yC S rec d n) fun b m=>b.Fit S:=wX hrec rfl
theorem QG (n:Nat):Ret (oD S F rec d n) fun b m=>b.Fit S:=by
 unfold oD;refine ax (fun h=>?_) (fun _=>ax (fun h=>?_) (fun _=>ax (fun h=>?_) (fun _=>Kt hrec n)))
 ·refine af (hrec .exp (n+1) trivial) (fun a m ha=>?_)
  refine af (dD m) (fun _ m2 h2=>?_)
  refine af (hrec .exp m2 trivial) (fun b m3 hb=>?_)
  refine af (dD m3) (fun _ m4 h4=>?_)
  exact af (hrec .exp m4 trivial) (fun c m5 hc=>ai (aQ (dH rfl) ⟨ha,hb,hc,trivial⟩))
 ·refine af (hrec .exp (n+1) trivial) (fun a m ha=>?_)
  refine af (dD m) (fun _ m2 h2=>?_)
  exact af (nO F (Qg hrec) m2) (fun l m3 hl=>ai (aQ (dH rfl) ((iP.one ha).cat hl)))
 ·exact wX hrec rfl
omit hrec in
theorem nU (n:Nat):Ret (bT S F n) fun x m=>S.kd x=6:=by
 unfold bT;refine ax (fun h=>gB (n+1)) (fun _=>ax (fun h=>?_) (fun _=>gB n))
 refine af (P:=fun _ _=>True) (fun _ _ _=>trivial) (fun _ m hm=>?_)
 refine af (P:=fun _ _=>True) (fun _ _ _=>trivial) (fun _ m2 h2=>?_)
 exact af (dD m2) (fun _ m3 h3=>gB m3)
theorem Qj (n:Nat):Ret (lW S rec d n) fun b m=>b.Fit S:=by
 unfold lW;refine af (gB n) (fun x m hx=>ax (fun h=>?_) (fun _=>ai (aQ (gK rfl (by rw [hx]; rfl)) .nil)))
 exact af (hrec .ty (m+1) trivial) (fun b m2 hb=>ai (aQ (gK rfl (by rw [hx]; rfl)) (.one hb)))
theorem IE (n:Nat):Ret (fV S F rec d n) fun b m=>b.Fit S:=by
 unfold fV;refine af (nU n) (fun x m hx=>?_)
 refine af (dD m) (fun _ m2 h2=>?_)
 exact af (nO F (Qj hrec) m2) (fun l m3 hl=>ai (aQ (gK rfl (by rw [hx]; rfl)) hl))
theorem qH {fr n:Nat}:Ret (bU S F rec d fr n) fun b m=>b.Fit S:=by
 unfold bU;exact af (nO F (IE hrec) n) (fun l m hl=>ai (aQ (dH rfl) hl))
theorem Nq (n:Nat):Ret (jF S F rec d n) fun b m=>b.Fit S:=by
 unfold jF;refine ax (fun h=>?_) (fun _=>ax (fun h=>?_) (fun _=>ax (fun h=>?_) (fun _=>ax (fun h=>?_) (fun _=>?_))))
 ·refine af (xY (n+1)) (fun x m hx=>?_)
  refine af (dD m) (fun _ m2 h2=>?_)
  exact af (hrec .ty m2 trivial) (fun b m3 hb=>ai (aQ (gK rfl (mV hx)) (.one hb)))
 ·refine af (nU (n+1)) (fun x m hx=>ax (fun h2=>?_) (fun _=>ai (aQ (gK rfl (by rw [hx]; rfl)) .nil)))
  exact af (hrec .ty (m+1) trivial) (fun b m3 hb=>ai (aQ (gK rfl (by rw [hx]; rfl)) (.one hb)))
 ·exact qH hrec
 ·refine af (gB (n+1)) (fun x m hx=>?_)
  refine af (dD m) (fun _ m2 h2=>?_)
  exact af (hrec .sig m2 trivial) (fun b m3 hb=>ai (aQ (gK rfl (by rw [hx]; rfl)) (.one hb)))
 ·refine af (dD n) (fun _ m2 h2=>?_)
  exact af (hrec .sig m2 trivial) (fun b m3 hb=>ai (aQ (dH rfl) (.one hb)))
theorem Jj:∀ (f:Nat) (acc:List Pb) (n:Nat),iP S acc→Ret (iC S F rec d f acc n) fun l m=>iP S l:=by
 intro f
 induction f with
 | zero=>intro acc n _; exact bP
 | succ f ih =>
  intro acc n h;unfold iC;refine ax (fun hc=>ai h) (fun _=>ax (fun hc=>ih _ _ h) (fun _=>?_))
  exact af (Nq hrec n) (fun b m hb=>ih _ _ (h.cat (.one hb)))
theorem BF (n:Nat):Ret (dY S F rec d n) fun b m=>b.Fit S:=by
 unfold dY;refine ax (fun h=>?_) (fun _=>af (gB n) (fun x m hx=>ai (aQ (gK rfl (by rw [hx]; rfl)) .nil)))
 exact af (Jj hrec F [] (n+1) .nil) (fun l m hl=>ai (aQ (dH rfl) hl))
theorem Jy (p:Nat):∀ (f:Nat) (b:Pb) (n:Nat),b.Fit S→Ret (iM S rec d p f b n) fun b m=>b.Fit S:=by
 intro f
 induction f with
 | zero=>intro b n _; exact bP
 | succ f ih =>
  intro b n h;unfold iM;refine ax (fun hc=>?_) (fun _=>ai h)
  refine af (dD (n+1)) (fun _ m h1=>?_)
  refine af (lS m) (fun p m2 hp=>?_)
  refine af (dD m2) (fun _ m3 h3=>?_)
  exact af (hrec .ty m3 trivial) (fun c m4 hb=>ih _ _ (aQ (JL hp) ⟨h,hb,trivial⟩))
theorem Rq (n:Nat):Ret (nJ S F rec d n) fun b m=>b.Fit S:=by
 unfold nJ;exact af (BF hrec n) (fun b m hb=>Jy hrec n F b m hb)
theorem CJ (n:Nat):Ret (dW S F rec d n) fun b m=>b.Fit S:=by
 unfold dW;refine ax (fun h=>?_) (fun _=>ax (fun h=>?_) (fun _=>af (tN n) (fun p m hp=>ai (aQ (zG (.inr (.inl rfl)) hp) .nil))))
 ·refine af (yw hrec 1 (n+1)) (fun l m hl=>?_)
  exact af (dD m) (fun _ m2 h2=>ai (aQ (dH rfl) hl))
 ·simp only [Bool.and_eq_true,beq_iff_eq] at h
  refine af (hrec .str (n+2) trivial) (fun b m hb=>?_)
  exact af (dD m) (fun _ m2 h2=>ai (aQ (gK rfl (by rw [h.1]; rfl)) (.one hb)))
theorem Ob (p:Nat):∀ (f:Nat) (b:Pb) (n:Nat),b.Fit S→Ret (jZ S rec d p f b n) fun b m=>b.Fit S:=by
 intro f
 induction f with
 | zero=>intro b n _; exact bP
 | succ f ih =>
  intro b n h;unfold jZ;refine ax (fun _=>ai h) (fun hc=>?_)
  exact af (hrec .sig (n+1) trivial) (fun s m hs=>ih _ _ (rC (aQ (dH rfl) ⟨h,hs,trivial⟩)))
theorem Q4 (n:Nat):Ret (nV S F rec d n) fun b m=>b.Fit S:=by
 unfold nV;exact af (CJ hrec n) (fun b m hb=>Ob hrec n F b m hb)
theorem BL (n:Nat):Ret (jA S rec d n) fun l m=>iP S l.2:=by
 unfold jA;refine af (P:=fun l m=>iP S l) (ax (fun _=>ai .nil) (fun hc=>?_)) (fun l m hl=>?_)
 ·exact af (hrec .sig (n+1) trivial) (fun s m hs=>ai (.one hs))
 ·refine af (dD m) (fun _ m2 h2=>?_)
  exact af (hrec .str m2 trivial) (fun b m3 hb=>ai (hl.cat (.one hb)))
theorem yL {fr n:Nat}:Ret (cu S rec d fr n) fun b m=>b.Fit S:=by
 unfold cu;refine af (gB n) (fun x m hx=>?_)
 exact af (BL hrec m) (fun l m2 hl=>ai (rC (aQ (gK rfl (by rw [hx]; rfl)) hl)))
theorem Eg {fr n:Nat}:Ret (dU S rec d fr n) fun b m=>b.Fit S:=by
 unfold dU;refine af (gB n) (fun x m hx=>?_)
 refine af (dD m) (fun _ m2 h2=>?_)
 refine af (gB m2) (fun y m3 hy=>?_)
 refine af (dD m3) (fun _ m4 h4=>?_)
 refine af (hrec .sig m4 trivial) (fun g m5 hg=>?_)
 refine af (dD m5) (fun _ m6 h6=>?_)
 refine af (BL hrec m6) (fun l m7 hl=>ai (rC (aQ ⟨by decide,rfl,fun i hi=>?_⟩ ((iP.one hg).cat hl))))
 have hi':i < 2:=by simpa using hi
 match i,hi' with
 | 0,_=>show okK 6 (S.kd x)=true; rw [hx]; rfl
 | 1,_=>show okK 4 (S.kd y)=true; rw [hy]; rfl
theorem Qi:∀ (f:Nat) (acc:List Pb) (n:Nat),iP S acc→Ret (pg S F rec d f acc n) fun l m=>iP S l:=by
 intro f
 induction f with
 | zero=>intro acc n _; exact bP
 | succ f ih =>
  intro acc n h;unfold pg;exact ax (fun _=>af (jV hrec n) (fun b m hb=>ih _ _ (h.cat (.one hb)))) (fun _=>ai h)
theorem zS (n:Nat):Ret (cO S F rec d n) fun b m=>b.Fit S:=by
 unfold cO;refine af (xY n) (fun x m hx=>?_)
 refine af (jV hrec m) (fun b m2 hb=>?_)
 refine af (Qi hrec F [b] m2 (.one hb)) (fun l m3 hl=>?_)
 refine af (dD m3) (fun _ m4 h4=>?_)
 exact af (hrec .exp m4 trivial) (fun e m5 he=>ai (aQ (gK rfl (mV hx)) (hl.cat (.one he))))
theorem JG {fr n:Nat} (a:Nat):Ret (iw S F rec d fr a n) fun b m=>b.Fit S:=by
 unfold iw;refine af (qQ hrec a n) (fun x m hx=>?_)
 refine af (dD m) (fun _ m2 h2=>?_)
 refine af (qQ hrec a m2) (fun y m3 hy=>?_)
 exact af (dD m3) (fun _ m4 h4=>ai (aQ (dH rfl) ⟨hx,hy,trivial⟩))
theorem QW (a n:Nat):Ret (nX S F rec d a n) fun b m=>b.Fit S:=by
 unfold nX;refine ax (fun h=>?_) (fun q1=>ax (fun h=>?_) (fun q2=>ax (fun h=>?_) (fun q3=>ax (fun h=>?_) (fun q4=>ax (fun h=>?_) (fun q5=>ax (fun h=>?_) (fun q6=>ax (fun h=>?_) (fun q7=>ax (fun h=>?_) (fun q8=>?_))))))))
 ·refine af (hrec .pat (n+1) trivial) (fun p m hp=>?_)
  refine af (dD m) (fun _ m2 h2=>?_)
  exact af (hrec .exp m2 trivial) (fun e m3 he=>ai (aQ (dH rfl) ⟨hp,he,trivial⟩))
 ·exact af (nO F (zS hrec) (n+1)) (fun l m hl=>ai (aQ (dH rfl) hl))
 ·refine af (nU (n+1)) (fun x m hx=>?_)
  refine af (dD m) (fun _ m2 h2=>?_)
  exact af (hrec .ty m2 trivial) (fun b m3 hb=>ai (aQ (gK rfl (by rw [hx]; rfl)) (.one hb)))
 ·exact qH hrec
 ·exact yL hrec
 ·refine af (gB (n+1)) (fun x m hx=>?_)
  refine af (dD m) (fun _ m2 h2=>?_)
  exact af (hrec .sig m2 trivial) (fun b m3 hb=>ai (aQ (gK rfl (by rw [hx]; rfl)) (.one hb)))
 ·exact Eg hrec
 ·exact af (tN (n+1)) (fun p m hp=>ai (aQ (zG (.inl rfl) hp) .nil))
 ·exact JG hrec a
end
theorem OW:∀ (f:Nat) (nt:Nt) (d n:Nat),S.may nt n→Ret (parts S f nt d n) fun b m=>b.Fit S:=by
 intro f
 induction f with
 | zero=>intro nt d n _; exact bP
 | succ f ih =>
  intro nt d n hm;unfold parts;refine ax (fun _=>wZ) (fun _=>?_)
  have hrec:∀ nt k,S.may nt k→Ret (parts S f nt (d+1) k) fun b m=>b.Fit S:=fun nt k hk=>ih nt (d+1) k hk
  cases nt with
  | exp=>exact QG hrec n
  | pat=>exact Qo hrec n
  | ty=>exact UT hrec n
  | sig=>exact Rq hrec n
  | str=>exact Q4 hrec n
  | dec a=>exact QW hrec a n
theorem Nl (F:Nat):Ret (jk S F 0) fun b m=>b.Fit S:=by
 unfold jk;exact af (yw (F:=F) (rec:=parts S F) (d:=0) (fun nt k hk=>OW F nt 0 k hk) 2 0) (fun l m hl=>ai (aQ (dH rfl) hl))
end
structure BA where
 y:Br
 b:Nat
 o:Nat
abbrev BA.ad (e:BA):Addr:=⟨e.b,e.o,none⟩
def aT (b:Nat):Nat→List Br→List BA
 | _,[]=>[]
 | o,k :: r=>⟨k,b,o⟩ :: aT b (o+6) r
theorem nM (b:Nat) (l:List Br):∀ o,(aT b o l).map BA.y=l:=by
 induction l with
 | nil=>intro o; rfl
 | cons x r ih=>intro o; simp only [aT,List.map_cons,ih]
theorem gV (b:Nat) (l:List Br):∀ o i:Nat,(aT b o l)[i]?=l[i]?.map fun k=>(⟨k,b,o+i * 6⟩:BA):=by
 induction l with
 | nil=>intro o i; simp [aT]
 | cons x r ih =>
  intro o i
  cases i with
  | zero=>simp [aT]
  | succ i =>
   simp only [aT,List.getElem?_cons_succ,ih];rw [show o+6+i * 6=o+(i+1) * 6 by omega]
def BA.kids (e:BA):List BA:=match e.y.h.kp with
 | some a=>aT a.block a.off e.y.ks
 | none=>[]
structure BA.Good (e:BA) (w:World):Prop where
 at_:dV w e.b e.o e.y.h
 lies:e.y.Lies w
 lt:e.b < w.heap.size
theorem BB (e:BA) (w:World) (h:e.Good w):e.kids.map BA.y=e.y.ks:=by
 obtain ⟨_,hk,_⟩:=(bW _ _).1 h.lies;unfold BA.kids;obtain ⟨hn,h0 | ⟨b,off,hp,_⟩⟩:=hk
 ·have:e.y.ks=[]:=List.length_eq_zero_iff.1 (by omega)
  rw [this]
  cases e.y.h.kp <;> simp [aT]
 ·rw [hp]
  exact nM _ _ _
theorem xQ (e:BA) (w:World) (h:e.Good w):e.kids.length=e.y.ks.length:=by
 rw [← BB e w h,List.length_map]
theorem Qb (e:BA) (w:World) (h:e.Good w):e.kids.length=0∨∃ b off,e.y.h.kp=some ⟨b,off,none⟩∧e.kids.length≤e.y.h.kc∧∀ i e',e.kids[i]?=some e'→BA.ad e'=⟨b,off+i * 6,none⟩:=by
 obtain ⟨_,hk,_⟩:=(bW _ _).1 h.lies;have hl:=xQ e w h;obtain ⟨hn,h0 | ⟨b,off,hp,hc,_⟩⟩:=hk
 ·left; omega
 ·right
  refine ⟨b,off,hp,by omega,fun i e' he=>?_⟩
  unfold BA.kids at he;rw [hp] at he;simp only [gV,Option.map_eq_some_iff] at he;obtain ⟨k,_,rfl⟩:=he
  rfl
theorem Jw (e:BA) (w:World) (h:e.Good w):∀ x ∈ e.kids,x.Good w:=by
 intro x hx;obtain ⟨_,hk,hall⟩:=(bW _ _).1 h.lies;obtain ⟨hn,h0 | ⟨b,off,hp,hc,hb,hat⟩⟩:=hk
 ·have hl:=xQ e w h
  have:e.kids=[]:=List.length_eq_zero_iff.1 (by omega)
  rw [this] at hx; cases hx
 ·obtain ⟨i,hi,hxi⟩:=List.mem_iff_getElem.1 hx
  have hg:=List.getElem?_eq_getElem hi;rw [hxi] at hg;unfold BA.kids at hg;rw [hp] at hg;simp only [gV,Option.map_eq_some_iff] at hg;obtain ⟨k,hk2,rfl⟩:=hg;obtain ⟨hi',rfl⟩:=List.getElem?_eq_some_iff.1 hk2;exact ⟨hat i hi',hall _ (List.getElem_mem hi'),hb⟩
theorem BA.Good.step {e:BA} {w w':World} (h:e.Good w) (hb:Below w.heap.size w w'):e.Good w':=⟨h.at_.step h.lt hb,h.lies.step _ hb,Nat.lt_of_lt_of_le h.lt hb.size⟩
theorem iI (y:Br):y.flatB=y :: bC y.ks:=by cases y; simp only [Br.flatB,Br.ks]
def szB (e:BA):Nat:=e.y.flatB.length
theorem zL (l:List BA):szs szB l=(bC (l.map BA.y)).length:=by
 induction l with
 | nil=>rfl
 | cons x r ih=>simp only [szs,List.map_cons,bC,List.length_append,ih,szB]
theorem XK (args:Array Value) (w:World):Sem.run Tryz.prog (callFunc 126 args) w=.ok (.enter 126 args) w:=bI Tryz.func126 (by kernel_rfl) (by kernel_rfl) args w
theorem xy (e0:BA) (w0 wS:World) (hg0:e0.Good w0) (hsz:e0.y.flatB.length≤10000000) (fw:Nat) (cw:Array Value) (hcw:∀ args w,Sem.run Tryz.prog (callFunc fw args) w=.ok (.enter fw args) w)
  (A:List Br→Nat→World→Prop)
  (stab:∀ l g w w' g',A l g w→w.grownBy w' (some g)→(g'=g∨w.heap.size≤g')→A l g' w')
  (low:∀ l g w,A l g w→Below w0.heap.size w0 w)
  (HW:∀ l (e:BA) r g w,A l g w→g < w.heap.size→e.Good w0→l++e.y :: r=e0.y.flatB→Calls Tryz.prog fw (#[.pointer (some e.ad)]++cw) w fun x w'=>x=.returned (.bool true)∧A (l++[e.y]) g w'∧w.heap.size≤w'.heap.size∧w'.heap[g]?=w.heap[g]?)
  (h0:∀ w',Below wS.heap.size wS w'→A [] wS.heap.size w') :
  Calls Tryz.prog 125 #[.pointer (some e0.ad),.func (.func 126) #[] #[],.func (.func fw) #[] cw] wS fun x w'=>x=.returned (.bool true)∧∃ g,A e0.y.flatB g w':=by
 have szK:∀ e:BA,szs szB e.kids+1≤szB e:=fun e=>by
  rw [zL,szB,iI,List.length_cons]
  have:(bC (e.kids.map BA.y)).length≤(bC e.y.ks).length:=by
   unfold BA.kids
   cases e.y.h.kp with
   | none=>simp [bC]
   | some a =>
    simp only
    rw [nM];exact Nat.le_refl _
  omega
 refine (IX BA.ad szB (fun e=>qf e.y)
  (fun st g w=>∃ l,A l g w∧l++bC (st.map BA.y)=e0.y.flatB∧∀ e ∈ st,e.Good w0)
  (fun e st g w=>∃ l,A (l++[e.y]) g w∧l++e.y :: (bC e.y.ks++bC (st.map BA.y))=e0.y.flatB∧e.Good w0∧∀ e ∈ st,e.Good w0)
  (fun st g w w' g' ⟨l,h1,h2,h3⟩ h4 h5=>⟨l,stab _ _ _ _ _ h1 h4 h5,h2,h3⟩)
  126 fw #[] cw XK hcw ?_ ?_ e0 wS hsz (fun w' hb=>⟨[],h0 w' hb,by simp [bC],fun e he=>by rw [List.mem_singleton.1 he]; exact hg0⟩)).mono ?_
 ·rintro e st g w ⟨l,h1,h2,h3⟩ hgl
  have he:=h3 e (by simp);have hx:l++e.y :: (bC e.y.ks++bC (st.map BA.y))=e0.y.flatB:=by
   rw [← h2,List.map_cons,bC,iI]; simp
  refine (HW l e _ g w h1 hgl he hx).mono ?_
  rintro x w' ⟨rfl,h4,h5,h6⟩;exact ⟨rfl,⟨l,h4,hx,he,fun z hz=>h3 z (by simp [hz])⟩,h5,h6⟩
 ·rintro e st g w ⟨l,h1,h2,h3,h4⟩ hgl
  have he:=h3.step (low _ _ _ h1);refine (wY e.b e.o e.y.h w he.at_).mono ?_
  rintro x w' ⟨rfl,rfl⟩;have hkl:=xQ e w0 h3;have hkn:e.y.h.kn=e.kids.length:=by
   have:=((bW _ _).1 h3.lies).2.1.1
   omega
  refine ⟨e.y.h.kp,e.y.h.kc,e.kids,by rw [hkn],szK e,Qb e w0 h3,⟨l++[e.y],h1,?_,?_⟩,Nat.le_refl _,rfl⟩
  ·rw [List.map_append,qA,BB e w0 h3,← h2]; simp
  ·intro z hz
   rcases List.mem_append.1 hz with hz | hz
   ·exact Jw e w0 h3 z hz
   ·exact h4 z hz
 ·rintro x w' ⟨rfl,g,l,h1,h2,_⟩
  simp only [List.map_nil,bC,List.append_nil] at h2;exact ⟨rfl,g,by rw [← h2]; exact h1⟩
end Go.Proofs.YtmpmfamiegpmgaaGreatDoor
namespace Go.Proofs
open Go.Shelf
def Tryz.lays189_ren:Go.Shelf.Ren:=⟨fun | 189=>67 | 125=>104 | 257=>103 | 128=>150 | 129=>151 | 294=>141 | 295=>142 | 296=>143 | 297=>144 | 298=>145 | 299=>146 | 216=>147 | 300=>148 | 301=>149 | 328=>193 | 329=>194 | 330=>195 | 331=>196 | 332=>197 | 215=>198 | 343=>253 | n=>n,fun | 28=>23 | 3=>3 | 46=>175 | 0=>0 | 51=>224 | 53=>226 | 4=>4 | 183=>218 | 182=>217 | 131=>71 | 5=>5 | 9=>9 | 218=>243 | 222=>247 | 228=>268 | 229=>155 | n=>n,fun | n=>n⟩
theorem Tryz.lays189:Go.Proofs.Lays.n189 Tryz.prog Tryz.lays189_ren:={
 mixed:=by kernel_rfl
 f125:=Tryz.func104.trans (congrArg some (by kernel_rfl))
 f128:=Tryz.func150.trans (congrArg some (by kernel_rfl))
 f129:=Tryz.func151.trans (congrArg some (by kernel_rfl))
 f189:=Tryz.func67.trans (congrArg some (by kernel_rfl))
 f215:=Tryz.func198.trans (congrArg some (by kernel_rfl))
 f216:=Tryz.func147.trans (congrArg some (by kernel_rfl))
 f257:=Tryz.func103.trans (congrArg some (by kernel_rfl))
 f294:=Tryz.func141.trans (congrArg some (by kernel_rfl))
 f295:=Tryz.func142.trans (congrArg some (by kernel_rfl))
 f296:=Tryz.func143.trans (congrArg some (by kernel_rfl))
 f297:=Tryz.func144.trans (congrArg some (by kernel_rfl))
 f298:=Tryz.func145.trans (congrArg some (by kernel_rfl))
 f299:=Tryz.func146.trans (congrArg some (by kernel_rfl))
 f300:=Tryz.func148.trans (congrArg some (by kernel_rfl))
 f301:=Tryz.func149.trans (congrArg some (by kernel_rfl))
 f328:=Tryz.func193.trans (congrArg some (by kernel_rfl))
 f329:=Tryz.func194.trans (congrArg some (by kernel_rfl))
 f330:=Tryz.func195.trans (congrArg some (by kernel_rfl))
 f331:=Tryz.func196.trans (congrArg some (by kernel_rfl))
 f332:=Tryz.func197.trans (congrArg some (by kernel_rfl))
 f343:=Tryz.func253.trans (congrArg some (by kernel_rfl))
 t0:=Tryz.underlying0
 a0:=Tryz.isAgg0
 z0:=Tryz.sizeOf0
 v0:=Tryz.zeroValue0
 t3:=Tryz.underlying3
 a3:=Tryz.isAgg3
 z3:=Tryz.sizeOf3
 v3:=Tryz.zeroValue3
 t4:=Tryz.underlying4
 a4:=Tryz.isAgg4
 z4:=Tryz.sizeOf4
 v4:=Tryz.zeroValue4
 t5:=Tryz.underlying5
 a5:=Tryz.isAgg5
 z5:=Tryz.sizeOf5
 v5:=Tryz.zeroValue5
 t9:=Tryz.underlying9
 a9:=Tryz.isAgg9
 z9:=Tryz.sizeOf9
 v9:=Tryz.zeroValue9
 t28:=Tryz.underlying23
 a28:=Tryz.isAgg23
 z28:=Tryz.sizeOf23
 v28:=Tryz.zeroValue23
 t46:=Tryz.underlying175
 a46:=Tryz.isAgg175
 z46:=Tryz.sizeOf175
 v46:=Tryz.zeroValue175
 t51:=Tryz.underlying224
 a51:=Tryz.isAgg224
 z51:=Tryz.sizeOf224
 v51:=Tryz.zeroValue224
 t53:=Tryz.underlying226
 a53:=Tryz.isAgg226
 z53:=Tryz.sizeOf226
 v53:=Tryz.zeroValue226
 t131:=Tryz.underlying71
 a131:=Tryz.isAgg71
 z131:=Tryz.sizeOf71
 v131:=Tryz.zeroValue71
 t182:=Tryz.underlying217
 a182:=Tryz.isAgg217
 z182:=Tryz.sizeOf217
 v182:=Tryz.zeroValue217
 t183:=Tryz.underlying218
 a183:=Tryz.isAgg218
 z183:=Tryz.sizeOf218
 v183:=Tryz.zeroValue218
 t218:=Tryz.underlying243
 a218:=Tryz.isAgg243
 z218:=Tryz.sizeOf243
 v218:=Tryz.zeroValue243
 t222:=Tryz.underlying247
 a222:=Tryz.isAgg247
 z222:=Tryz.sizeOf247
 v222:=Tryz.zeroValue247
 t228:=Tryz.underlying268
 a228:=Tryz.isAgg268
 z228:=Tryz.sizeOf268
 v228:=Tryz.zeroValue268
 t229:=Tryz.underlying155
 a229:=Tryz.isAgg155
 z229:=Tryz.sizeOf155
 v229:=Tryz.zeroValue155 }
open Go.Sort Go.RowKit in
theorem Tryz.slices_Sort_int (blk off cap:Nat) (zs:List Int) (w:World) (hH:Holds (Value.int .i64) w blk off zs.toArray) (hblk:blk < w.heap.size) (hsz:zs.length < 4611686018427387904) :
  Calls Tryz.prog 67 #[.slice (some ⟨blk,off,none⟩) zs.length cap] w fun e w' =>
   e=.returned (.tuple #[])∧∃ n os,w'=grow (putRow (Value.int .i64) (Sort.ahead w n) blk off (zs.mergeSort fun x y=>decide (x≤y)).toArray) os:=Any.slices_Sort_int Tryz.lays189 blk off cap zs w hH hblk hsz
end Go.Proofs
