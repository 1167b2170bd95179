/-
  A branch's parts in order; how few they are; what is known of a file that is read.; Of which space the names of a part are: how many it may have, and which tokens they may be.; The plain parser's branches have as many names as their kinds may have, and each name is a word, a cap or a sign as its space asks.; A walk over a branch's parts, each ahead of its kids: for any function that takes them one by one.; Contracts of the library, laid.
-/
import Derived.Test.YtmpmfamiegpmgaaGreatDoorFK
import Derived.Test.YtmpmfamiegpmgaaGreatDoorFS
import Derived.Test.YtmpmfamiegpmgaaGreatDoorFF
import Derived.Shelf.Sort.Plain
import Derived.Ground.Names2Prog
import Derived.Ground.SlgnProg
import Derived.Test.YtmpmfamiegpmgaaGreatDoorProg
namespace Go.Proofs.YtmpmfamiegpmgaaGreatDoor
open Tryz
open Go.RowKit
set_option maxRecDepth 20000
set_option linter.unusedVariables false
set_option linter.unusedSimpArgs false
mutual
def Br.Few:Br→Prop
 | .mk h ks=>h.ns.length≤1000000∧ks.length≤1000000∧yz ks
def yz:List Br→Prop
 | []=>True
 | b :: r=>b.Few∧yz r
end
theorem nP (ks:List Br):yz ks ↔ ∀ b ∈ ks,b.Few:=by
 induction ks with
 | nil=>simp [yz]
 | cons x r ih=>simp [yz,ih]
theorem Q3 {l:List Pb} {b:Pb} (h:b ∈ l):b.wt≤wtL l:=by
 induction l with
 | nil=>cases h
 | cons x r ih =>
  simp only [wtL]
  rcases List.mem_cons.1 h with rfl | h
  ·omega
  ·have:=ih h; omega
theorem U5 (b:Pb):1≤b.wt:=by cases b; simp only [Pb.wt]; omega
theorem Qg (l:List Pb):l.length≤wtL l:=by
 induction l with
 | nil=>simp
 | cons x r ih=>have:=U5 x; simp only [wtL,List.length_cons]; omega
theorem uN (y:Br):y.pb.wt≤1000000→y.Few:=by
 induction y using Br.ind with
 | hP h ks ih =>
  intro hw;simp only [Br.pb,Pb.wt,eu] at hw;have h1:=Qg (ks.map Br.pb);rw [List.length_map] at h1;simp only [Br.Few,nP];refine ⟨by omega,by omega,fun b hb=>ih b hb ?_⟩
  have:=Q3 (List.mem_map.2 ⟨b,hb,rfl⟩:b.pb ∈ ks.map Br.pb)
  omega
theorem fA.box {w:World} {b:Nat} {h:Hd} (hat:fA w b 0 h):w.cell? ⟨b,0,none⟩=some (.int .i64 h.k)∧w.cell? ⟨b,1,none⟩=some (.int .i64 h.m)∧w.cell? ⟨b,2,none⟩=some (.int .i64 h.f) ∧
  w.cell? ⟨b,3,none⟩=some (.int .i64 h.t)∧w.cell? ⟨b,4,none⟩=some (.slice h.np h.nn h.nc)∧w.cell? ⟨b,5,none⟩=some (.slice h.kp h.kn h.kc):=by
 simpa [fA] using hat
abbrev Hd.obj (h:Hd):Obj:=.cells #[.int .i64 h.k,.int .i64 h.m,.int .i64 h.f,.int .i64 h.t,.slice h.np h.nn h.nc,.slice h.kp h.kn h.kc] 96
mutual
def Br.flatB:Br→List Br
 | .mk h ks=>.mk h ks :: aV ks
def aV:List Br→List Br
 | []=>[]
 | b :: r=>b.flatB++aV r
end
theorem lY (a b:List Br):aV (a++b)=aV a++aV b:=by
 induction a with
 | nil=>rfl
 | cons x r ih=>simp [aV,ih]
theorem mM (b:Br):1≤b.flatB.length:=by cases b; simp [Br.flatB]
def nmK (k:Int):Bool:=k == 6 || k == 7 || k == 9
structure U0 (s:ByteArray) (x:Pb) (n:Nat):Prop where
 rt:x.Rt
 fr:x.fr=0
 to:x.to=(n:Int)
 len:n+1=(aN s).length
 wt:x.wt≤3 * n+1
 one:∀ y,x.cnt y≤1
 inn:∀ y,0 < x.cnt y→0≤y∧y < (n:Int)
 nm:∀ (y:Nat) (h:y < (aN s).length),0 < x.cnt (y:Int)→nmK (aN s)[y].k=true
 all:∀ (y:Nat) (h:y < (aN s).length),x.cnt (y:Int)=0→nmK (aN s)[y].k=true→s.extract (aN s)[y].a (aN s)[y].e=⟨#[42]⟩
theorem Hl {S:Src} (g:S.Good) (T:S.ts=aN S.s) {x:Pb} {n:Nat} (h:fJ S (jF S)=.ok x n):U0 S.s x n:=by
 have hf:=ul g (F:=fuel S) (Nat.le_refl _) (Ov S T);unfold fJ jF at h
 cases hx:jo S (fuel S) 0 with
 | ok y k =>
  rw [hx] at h hf;have hk:k < S.ts.length:=hf.2;simp only [Out.bind] at h
  cases hz:(S.kd k == 0)
  ·rw [hz] at h; cases h
  ·rw [hz] at h
   simp only [cond_true] at h
   injection h with e1 e2
   subst e1 e2;have hend:=(g.fin k hk).1 (by rw [← S.kd_at hk]; exact beq_iff_eq.1 hz);have q:=OQ T (fuel S) y k hx;have hft:y.fr=0∧y.to=(k:Int):=by
    unfold jo at hx
    cases hd:gZ S (fuel S) (parts S (fuel S)) 0 2 0 with
    | ok l m =>
     rw [hd] at hx;simp only [Out.bind] at hx
     injection hx with e1 e2
     subst e1 e2;exact ⟨rfl,rfl⟩
    | form m=>rw [hd] at hx; cases hx
    | deep m=>rw [hd] at hx; cases hx
    | dry=>rw [hd] at hx; cases hx
   have hnm:∀ (z:Nat) (hz:z < S.ts.length),S.nm z=nmK S.ts[z].k:=fun z hz=>by
    unfold Src.nm nmK; rw [S.kd_at hz]
   refine ⟨q.rt,hft.1,hft.2,by rw [← T]; exact hend,MX (fuel S) y k hx,q.cov.one,fun z hz=>by have:=q.cov.inn z hz; omega,fun z hz hc=>?_,fun z hz hc hn=>?_⟩
   ·have:=q.cov.nm z hc
    rw [hnm z (by rw [T]; exact hz)] at this
    simpa only [T] using this
   ·have hz2:z < S.ts.length:=by rw [T]; exact hz
    have h1:nmK S.ts[z].k=true:=by simpa only [T] using hn
    have hlt:z < k:=by
     rcases Nat.lt_or_ge z k with h | h
     ·exact h
     ·have e:z=k:=by omega
      subst e
      have:=(g.fin z hz2).2 hend
      rw [this] at h1; exact absurd h1 (by decide)
    rcases hs:S.is z [42] with _ | _
    ·have:=q.cov.all z (by omega) hlt (by rw [hnm z hz2]; exact h1) hs
     exact absurd hc (Nat.ne_of_gt this)
    ·have h2:S.s.extract (aN S.s)[z].a (aN S.s)[z].e=S.tx z:=by rw [S.tx_at hz2]; simp only [T]
     rw [h2]
     apply zH
     simpa [Src.is] using hs
 | form k=>rw [hx] at h; cases h
 | deep k=>rw [hx] at h; cases h
 | dry=>rw [hx] at h; cases h
def vI (x:Int):List Br→Nat
 | []=>0
 | b :: r=>b.h.ns.count x+vI x r
theorem Dv (x:Int) (a b:List Br):vI x (a++b)=vI x a+vI x b:=by
 induction a with
 | nil=>simp [vI]
 | cons y r ih=>simp only [List.cons_append,vI,ih]; omega
theorem yS (x:Int) (b:Br):vI x b.flatB=b.pb.cnt x:=by
 induction b using Br.ind with
 | hP h ks ih =>
  have:vI x (aV ks)=pX x (ks.map Br.pb):=by
   clear h
   induction ks with
   | nil=>rfl
   | cons y r ih2 =>
    simp only [aV,Dv,List.map_cons,pX];rw [ih y (by simp),ih2 (fun z hz=>ih z (by simp [hz]))]
  simp only [Br.flatB,vI,Br.h,Br.pb,Pb.cnt,eu,this]
theorem qC {y:Br} {ks:List Br} (h:y ∈ aV ks):∃ k ∈ ks,y ∈ k.flatB:=by
 induction ks with
 | nil=>cases h
 | cons z r ih =>
  simp only [aV] at h
  rcases List.mem_append.1 h with h | h
  ·exact ⟨z,by simp,h⟩
  ·obtain ⟨k,h1,h2⟩:=ih h
   exact ⟨k,by simp [h1],h2⟩
theorem Ru (b:Br):b.flatB.length≤b.pb.wt:=by
 induction b using Br.ind with
 | hP h ks ih =>
  have:(aV ks).length≤wtL (ks.map Br.pb):=by
   clear h
   induction ks with
   | nil=>simp [aV]
   | cons y r ih2 =>
    simp only [aV,List.length_append,List.map_cons,wtL]
    have:=ih y (by simp)
    have:=ih2 (fun z hz=>ih z (by simp [hz]))
    omega
  simp only [Br.flatB,List.length_cons,Br.pb,Pb.wt,eu]
  omega
def pre (x:Int) (F:List Br) (i:Nat) (ns:List Int):Nat:=vI x (F.take i)+ns.count x
def jc (k:Int):Int :=
 bif k == 5 || k == 39 || k == 40 || k == 22 then 1 else bif k == 6 || k == 8 || k == 23 then 3 else bif k == 9 then 2 else bif k == 10 || k == 24 then 4 else bif k == 11 then 5 else 0
def kQ (k:Int):Bool:=k == 13 || k == 16 || k == 28 || k == 29 || k == 42 || k == 21
def rH (k:Int):Int:=bif k == 28 then 1 else bif k == 29 then 2 else bif k == 42 || k == 21 then 3 else 4
def kU (k:Int) (n:Nat):Bool :=
 bif !(jc k == 0) || k == 20 || k == 17 then n == 1 else bif k == 12 then n == 2 else bif kQ k || k == 37 then !(n == 0) else n == 0
def jl (k:Int) (i n:Nat):Int × Bool :=
 bif !(jc k == 0) then (jc k,true)
 else bif k == 12 then (bif i == 0 then (6,true) else (4,true))
 else bif k == 37 then (1,false) else bif k == 20 then (5,false) else bif k == 17 then (6,false)
 else bif kQ k then (bif i+1 == n then (rH k,false) else (4,false)) else (0,false)
def okK (sp tk:Int):Bool:=bif sp == 1 then tk == 6 || tk == 9 else bif sp == 3 then tk == 6 else tk == 7
def Aj (S:Src) (k:Int) (ns:List Int):Prop:=(1≤k∧k≤44)∧kU k ns.length=true∧∀ i,(h:i < ns.length)→okK (jl k i ns.length).1 (S.kd ns[i].toNat)=true
mutual
def Pb.Fit (S:Src):Pb→Prop
 | .mk k _ _ _ ns ks=>Aj S k ns∧iY S ks
def iY (S:Src):List Pb→Prop
 | []=>True
 | b :: r=>b.Fit S∧iY S r
end
theorem BV (S:Src) (l:List Pb):iY S l ↔ ∀ b ∈ l,b.Fit S:=by
 induction l with
 | nil=>simp [iY]
 | cons x r ih=>simp [iY,ih]
section
variable {S:Src}
theorem iY.nil:iY S []:=trivial
theorem iY.cat {a b:List Pb} (h:iY S a) (g:iY S b):iY S (a++b):=by
 rw [BV] at *;intro x hx;exact (List.mem_append.1 hx).elim (h x) (g x)
theorem iY.one {b:Pb} (h:b.Fit S):iY S [b]:=⟨h,trivial⟩
theorem aS {k:Int} {f t:Nat} {ns:List Nat} {l:List Pb} (hn:Aj S k (ns.map fun x:Nat=>(x:Int))) (hl:iY S l):(node k f t ns l).Fit S:=⟨hn,hl⟩
theorem rW {m:Int} {b:Pb} (h:b.Fit S):(marked m b).Fit S:=by
 cases b; exact h
theorem dG {k:Int} (h:kU k 0=true) (hb:1≤k∧k≤44:=by decide):Aj S k (([]:List Nat).map fun x:Nat=>(x:Int)):=⟨hb,h,fun i hi=>by cases hi⟩
theorem gV {k:Int} {x:Nat} (h:kU k 1=true) (hx:okK (jl k 0 1).1 (S.kd x)=true) (hb:1≤k∧k≤44:=by decide):Aj S k ([x].map fun x:Nat=>(x:Int)) :=
 ⟨hb,h,fun i hi=>by
  have:i=0:=by simpa using hi
  subst this; exact hx⟩
theorem pG {k:Int} {p:List Nat} {x:Nat} (hk:kQ k=true) (ho:jc k=0) (h12:(k == 12)=false) (h37:(k == 37)=false) (h20:(k == 20)=false) (h17:(k == 17)=false) (hp:∀ y ∈ p,S.kd y=7) (hx:okK (rH k) (S.kd x)=true) (hb:1≤k∧k≤44:=by decide) :
  Aj S k ((p++[x]).map fun x:Nat=>(x:Int)):=by
 refine ⟨hb,?_,fun i hi=>?_⟩
 ·simp [kU,ho,h12,h20,h17,hk]
 ·simp only [List.length_map,List.length_append,List.length_singleton] at hi
  simp only [jl,ho,h12,h37,h20,h17,hk,beq_self_eq_true,Bool.not_true,cond_false,cond_true,List.length_map,List.length_append,List.length_singleton,List.getElem_map,Int.toNat_natCast]
  by_cases he:i=p.length
  ·subst he
   simp only [beq_self_eq_true,cond_true,List.getElem_append_right (Nat.le_refl _),Nat.sub_self,List.getElem_cons_zero];exact hx
  ·have hb:(i+1 == p.length+1)=false:=by simp; omega
   rw [hb,cond_false];rw [List.getElem_append_left (by omega)]
   have:=hp _ (List.getElem_mem (by omega:i < p.length))
   rw [this]; rfl
theorem KH {ns:List Nat} (h0:ns≠[]) (h:∀ x ∈ ns,S.kd x=9):Aj S 37 (ns.map fun x:Nat=>(x:Int)):=by
 refine ⟨by decide,?_,fun i hi=>?_⟩
 ·have:ns.length≠0:=fun e=>h0 (List.length_eq_zero_iff.1 e)
  simp [kU,jc,kQ,this]
 ·have hi':i < ns.length:=by simpa using hi
  have:=h _ (List.getElem_mem hi')
  simp only [List.getElem_map,Int.toNat_natCast,this]
  rfl
theorem um {k:Int} {n m:Nat} {l:List Pb} (hk:kU k 0=true) (h:iY S l) (hb:1≤k∧k≤44:=by decide):(fP l k n m []).Fit S:=by
 unfold fP
 split
 ·exact h.1
 ·exact aS (dG hk hb) h
def PF (S:Src) (ks:List Int) (l:List Nat):Prop:=∃ p x,l=p++[x]∧(∀ y ∈ p,S.kd y=7)∧ks.contains (S.kd x)=true
theorem Ah {ks:List Int} (n:Nat):Ret (S.take ks n) fun x m=>x=n∧m=n+1∧ks.contains (S.kd x)=true:=by
 unfold Src.take;exact ax (fun h=>ai ⟨rfl,rfl,h⟩) (fun _=>jv)
theorem gJ {k:Int} (n:Nat):Ret (S.take [k] n) fun x m=>S.kd x=k:=(Ah n).mono fun x m h=>by simpa using h.2.2
theorem dC {t:List UInt8} (n:Nat):Ret (S.need t n) fun _ _=>True:=fun _ _ _=>trivial
theorem N8 {ks:List Int}:∀ (f:Nat) (acc:List Nat) (n:Nat),(∃ p x,acc=p++[x]∧x+1=n∧(∀ y ∈ p,S.kd y=7)∧ks.contains (S.kd x)=true)→Ret (S.pathL ks f acc n) fun l m=>∃ p x,l=p++[x]∧x+1=m∧(∀ y ∈ p,S.kd y=7)∧ks.contains (S.kd x)=true:=by
 intro f
 induction f with
 | zero=>intro acc n _; exact bQ
 | succ f ih =>
  intro acc n h;unfold Src.pathL;refine ax (fun hc=>?_) (fun _=>ai h)
  simp only [Bool.and_eq_true,beq_iff_eq] at hc;obtain ⟨p,x,rfl,rfl,hp,hx⟩:=h;refine af (Ah (x+1+1)) (fun y m hy=>ih _ _ ⟨p++[x],y,rfl,by omega,fun z hz=>?_,hy.2.2⟩)
  rcases List.mem_append.1 hz with hz | hz
  ·exact hp z hz
  ·have:z=x:=by simpa using hz
   rw [this]; exact hc.1
theorem Au {ks:List Int} (n:Nat):Ret (S.path ks n) fun l m=>∃ p x,l=p++[x]∧x+1=m∧(∀ y ∈ p,S.kd y=7)∧ks.contains (S.kd x)=true:=by
 unfold Src.path;exact af (Ah n) (fun x m hx=>N8 _ _ _ ⟨[],x,rfl,by omega,fun y hy=>(by cases hy),hx.2.2⟩)
theorem tu (n:Nat):Ret (S.path [7] n) fun l m=>∃ p x,l=p++[x]∧(∀ y ∈ p,S.kd y=7)∧S.kd x=7 :=
 (Au n).mono fun l m ⟨p,x,h1,_,h2,h3⟩=>⟨p,x,h1,h2,by simpa using h3⟩
theorem lN (n:Nat):Ret (S.typePath n) fun l m=>∃ p x,l=p++[x]∧(∀ y ∈ p,S.kd y=7)∧S.kd x=6:=by
 unfold Src.typePath;refine af (Au n) (fun l m ⟨p,x,h1,h2,h3,h4⟩=>ax (fun hc=>ai ⟨p,x,h1,h3,?_⟩) (fun _=>jv))
 rw [← h2,Nat.add_sub_cancel] at hc
 simpa using hc
theorem GN {l:List Nat} (h:∃ p x,l=p++[x]∧(∀ y ∈ p,S.kd y=7)∧S.kd x=6):Aj S 42 (l.map fun x:Nat=>(x:Int)):=by
 obtain ⟨p,x,rfl,h1,h2⟩:=h;exact pG rfl rfl rfl rfl rfl rfl h1 (by rw [h2]; rfl)
theorem KF {l:List Nat} (h:∃ p x,l=p++[x]∧(∀ y ∈ p,S.kd y=7)∧S.kd x=6):Aj S 21 (l.map fun x:Nat=>(x:Int)):=by
 obtain ⟨p,x,rfl,h1,h2⟩:=h;exact pG rfl rfl rfl rfl rfl rfl h1 (by rw [h2]; rfl)
theorem zD {k:Int} {l:List Nat} (hk:k=13∨k=16∨k=29) (h:∃ p x,l=p++[x]∧(∀ y ∈ p,S.kd y=7)∧S.kd x=7):Aj S k (l.map fun x:Nat=>(x:Int)):=by
 obtain ⟨p,x,rfl,h1,h2⟩:=h
 rcases hk with rfl | rfl | rfl <;> exact pG rfl rfl rfl rfl rfl rfl h1 (by rw [h2]; rfl)
theorem wM (n:Nat):Ret (S.value n) fun x m=>S.kd x=6∨S.kd x=9:=by
 unfold Src.value;exact ax (fun h=>(gJ (n+1)).mono fun x m hx=>.inr hx) (fun _=>(gJ n).mono fun x m hx=>.inl hx)
theorem nz {x:Nat} (h:S.kd x=6∨S.kd x=9):okK 1 (S.kd x)=true:=by rcases h with h | h <;> rw [h] <;> rfl
theorem RG {mark:List UInt8} {read:Nat→Out Pb} (hr:∀ k,Ret (read k) fun b m=>b.Fit S):∀ (f:Nat) (acc:List Pb) (n:Nat),iY S acc→Ret (lL S mark read f acc n) fun l m=>iY S l:=by
 intro f
 induction f with
 | zero=>intro acc n _; exact bQ
 | succ f ih =>
  intro acc n h;unfold lL;refine ax (fun hc=>?_) (fun _=>ai h)
  exact af (hr (n+1)) (fun b m hb=>ih _ _ (h.cat (.one hb)))
theorem nN (F:Nat) {mark:List UInt8} {read:Nat→Out Pb} (hr:∀ k,Ret (read k) fun b m=>b.Fit S) (n:Nat):Ret (gK S F mark read n) fun l m=>iY S l:=by
 unfold gK;exact af (hr n) (fun b m hb=>RG hr F [b] m (.one hb))
section
variable {F:Nat} {rec:Nt→Nat→Nat→Out Pb} {d:Nat} (hrec:∀ nt k,S.may nt k→Ret (rec nt d k) fun b m=>b.Fit S)
include hrec
theorem Am (n:Nat):Ret (dF S F rec d n) fun b m=>b.Fit S:=by
 unfold dF;refine ax (fun h=>ai (aS (dG rfl) .nil)) (fun _=>ax (fun h=>?_) (fun _=>?_))
 ·refine af (nN F (fun k=>hrec .ty k trivial) (n+1)) (fun l m hl=>?_)
  refine af (dC m) (fun _ m2 h2=>?_)
  unfold qK
  split
  ·exact ai hl.1
  ·exact af (lN m2) (fun p m3 hp=>ai (aS (GN hp) hl))
 ·exact af (lN n) (fun p m3 hp=>ai (aS (GN hp) .nil))
theorem DT (n:Nat):∀ (f:Nat) (b:Pb) (m:Nat),b.Fit S→Ret (dH S n f b m) fun b m=>b.Fit S:=by
 have _:=hrec;intro f
 induction f with
 | zero=>intro b m _; exact bQ
 | succ f ih =>
  intro b m h;unfold dH;exact ax (fun _=>af (lN m) (fun p m1 hp=>ih _ _ (aS (GN hp) (.one h)))) (fun _=>ai h)
theorem Eg (n:Nat):Ret (dh S F rec d n) fun b m=>b.Fit S:=by
 unfold dh;exact af (Am hrec n) (fun b m hb=>DT hrec n F b m hb)
theorem CS (n:Nat):Ret (dX S F rec d n) fun b m=>b.Fit S:=by
 unfold dX;exact af (nN F (Eg hrec) n) (fun l m hl=>ai (um rfl hl))
theorem UQ (n:Nat):Ret (tyO S F rec d n) fun b m=>b.Fit S:=by
 unfold tyO;refine af (CS hrec n) (fun b m hb=>ax (fun h=>?_) (fun _=>ai hb))
 exact af (hrec .ty (m+1) trivial) (fun c m2 hc=>ai (aS (dG rfl) ⟨hb,hc,trivial⟩))
omit hrec in
theorem IM {fr n:Nat} {member:Nat→Out Pb} (hm:∀ k,Ret (member k) fun b m=>b.Fit S):Ret (iC S F fr member n) fun b m=>b.Fit S:=by
 unfold iC;refine ax (fun h=>ai (aS (dG rfl) .nil)) (fun _=>?_)
 refine af (nN F hm n) (fun l m hl=>?_)
 exact af (dC m) (fun _ m2 h2=>ai (um rfl hl))
omit hrec in
theorem zB {named:Int} (hn:named=28∨named=39) {member:Nat→Out Pb} (hm:∀ k,Ret (member k) fun b m=>b.Fit S) (n:Nat):Ret (plainO S F named member n) fun b m=>b.Fit S:=by
 unfold plainO;refine ax (fun h=>ai (aS (dG rfl) .nil)) (fun _=>ax (fun h=>ai (aS (dG rfl) .nil)) (fun _=>ax (fun h=>?_) (fun _=>?_)))
 ·exact IM hm
 ·refine af (wM n) (fun x m hx=>ai (aS ?_ .nil))
  rcases hn with rfl | rfl
  ·exact pG (p:=[]) rfl rfl rfl rfl rfl rfl (fun y hy=>by cases hy) (nz hx)
  ·exact gV rfl (nz hx)
theorem jW (n:Nat):Ret (bT S F rec d n) fun b m=>b.Fit S:=by
 unfold bT;refine ax (fun h=>ai (aS (dG rfl) .nil)) (fun _=>ax (fun _=>?_) (fun _=>zB (.inr rfl) (fun k=>hrec .pat k trivial) n))
 exact af (tu n) (fun p m hp=>ai (aS (zD (.inr (.inr rfl)) hp) .nil))
theorem Rf (n:Nat):Ret (nY S F rec d n) fun b m=>b.Fit S:=by
 unfold nY;refine ax (fun h=>?_) (fun _=>ax (fun _=>?_) (fun _=>jW hrec n))
 ·simp only [Bool.and_eq_true,beq_iff_eq] at h
  exact af (hrec .pat (n+2) trivial) (fun b m hb=>ai (aS (gV rfl (nz (.inl h.1))) (.one hb)))
 ·refine af (tu n) (fun p m hp=>ax (fun _=>?_) (fun _=>ai (aS (zD (.inr (.inr rfl)) hp) .nil)))
  exact af (jW hrec m) (fun b m2 hb=>ai (aS (zD (.inr (.inr rfl)) hp) (.one hb)))
theorem Nh (a:Nat):∀ (f:Nat) (acc:List Pb) (n:Nat),iY S acc→Ret (jE S rec d a f acc n) fun l m=>iY S l:=by
 intro f
 induction f with
 | zero=>intro acc n _; exact bQ
 | succ f ih =>
  intro acc n h;unfold jE;refine ax (fun hc=>ih _ _ h) (fun _=>ax (fun hd=>?_) (fun _=>ai h))
  exact af (hrec (.dec a) n hd) (fun b m hb=>ih _ _ (h.cat (.one hb)))
theorem xK (a n:Nat):Ret (gZ S F rec d a n) fun l m=>iY S l:=Nh hrec a F [] n .nil
theorem rO (a n:Nat):Ret (fB S F rec d a n) fun b m=>b.Fit S:=by
 unfold fB;exact af (xK hrec a n) (fun l m hl=>ai (aS (dG rfl) hl))
theorem CZ (n:Nat):Ret (iI S F rec d n) fun b m=>b.Fit S:=by
 unfold iI;refine ax (fun _=>?_) (fun _=>ax (fun h=>?_) (fun _=>zB (.inl rfl) (fun k=>hrec .exp k trivial) n))
 ·refine af (Au n) (fun l m ⟨p,x,h1,h2,h3,h4⟩=>?_)
  have hm:m - 1=x:=by omega
  rw [hm];refine ax (fun hc=>ai (aS (zD (.inr (.inr rfl)) ⟨p,x,h1,h3,by simpa using hc⟩) .nil)) (fun hc=>ai (aS ?_ .nil))
  rw [h1];refine pG rfl rfl rfl rfl rfl rfl h3 (nz (.inl ?_))
  have hc':S.kd x≠7:=by simpa using hc
  have h4':S.kd x=7∨S.kd x=6:=by simpa using h4
  exact h4'.resolve_left hc'
 ·refine af (rO hrec 0 (n+1)) (fun ds m hd=>?_)
  refine af (dC m) (fun _ m2 h2=>?_)
  refine af (hrec .exp m2 trivial) (fun e m3 he=>?_)
  exact af (dC m3) (fun _ m4 h4=>ai (aS (dG rfl) ⟨hd,he,trivial⟩))
theorem Ox:∀ (f:Nat) (acc:List Pb) (n:Nat),iY S acc→Ret (jd S F rec d f acc n) fun l m=>iY S l:=by
 intro f
 induction f with
 | zero=>intro acc n _; exact bQ
 | succ f ih =>
  intro acc n h;unfold jd;exact ax (fun _=>af (CZ hrec n) (fun b m hb=>ih _ _ (h.cat (.one hb)))) (fun _=>ai h)
theorem Em (n:Nat):Ret (jH S F rec d n) fun b m=>b.Fit S:=by
 unfold jH;refine af (CZ hrec n) (fun b m hb=>?_)
 exact af (Ox hrec F [b] m (.one hb)) (fun l m2 hl=>ai (um rfl hl))
theorem J6:∀ (f:Nat) (sg:List Nat) (acc:List Pb) (n:Nat),(acc.length=sg.length+1∧(∀ x ∈ sg,S.kd x=9)∧iY S acc)→Ret (iM S F rec d f sg acc n) fun l m=>l.2.length=l.1.length+1∧(∀ x ∈ l.1,S.kd x=9)∧iY S l.2:=by
 intro f
 induction f with
 | zero=>intro sg acc n _; exact bQ
 | succ f ih =>
  intro sg acc n h;unfold iM;refine ax (fun _=>?_) (fun _=>ai h)
  refine af (gJ n) (fun x m hx=>af (Em hrec m) (fun b m2 hb=>ih _ _ _ ?_))
  obtain ⟨h1,h2,h3⟩:=h;refine ⟨by simp only [List.length_append,List.length_singleton]; omega,fun y hy=>?_,h3.cat (.one hb)⟩
  rcases List.mem_append.1 hy with hy | hy
  ·exact h2 y hy
  ·have:y=x:=by simpa using hy
   rw [this]; exact hx
theorem IQ (n:Nat):Ret (gG S F rec d n) fun b m=>b.Fit S:=by
 unfold gG;refine af (Em hrec n) (fun b m hb=>?_)
 refine af (J6 hrec F [] [b] m ⟨rfl,fun x hx=>(by cases hx),.one hb⟩) (fun l m2 hl=>ai ?_)
 obtain ⟨sg,ks⟩:=l;obtain ⟨h1,h2,h3⟩:=hl;have h1:ks.length=sg.length+1:=h1;have h3:iY S ks:=h3
 show (fP ks 37 n m2 sg).Fit S
 unfold fP
 split
 ·exact h3.1
 ·next hne =>
  refine aS (KH (fun e=>?_) h2) h3
  subst e
  match ks,h1,hne with
  | [a],_,hne=>exact hne a rfl
theorem yl {k:Int} (hk:kU k 0=true) {fr n:Nat} (hb:1≤k∧k≤44:=by decide):Ret (fD S rec d k fr n) fun b m=>b.Fit S:=by
 unfold fD;refine af (hrec .pat n trivial) (fun p m hp=>?_)
 refine af (dC m) (fun _ m2 h2=>?_)
 exact af (hrec .exp m2 trivial) (fun e m3 he=>ai (aS (dG hk hb) ⟨hp,he,trivial⟩))
theorem Qx (n:Nat):Ret (yE S rec d n) fun b m=>b.Fit S:=yl hrec rfl
theorem RI (n:Nat):Ret (ou S F rec d n) fun b m=>b.Fit S:=by
 unfold ou;refine ax (fun h=>?_) (fun _=>ax (fun h=>?_) (fun _=>ax (fun h=>?_) (fun _=>IQ hrec n)))
 ·refine af (hrec .exp (n+1) trivial) (fun a m ha=>?_)
  refine af (dC m) (fun _ m2 h2=>?_)
  refine af (hrec .exp m2 trivial) (fun b m3 hb=>?_)
  refine af (dC m3) (fun _ m4 h4=>?_)
  exact af (hrec .exp m4 trivial) (fun c m5 hc=>ai (aS (dG rfl) ⟨ha,hb,hc,trivial⟩))
 ·refine af (hrec .exp (n+1) trivial) (fun a m ha=>?_)
  refine af (dC m) (fun _ m2 h2=>?_)
  exact af (nN F (Qx hrec) m2) (fun l m3 hl=>ai (aS (dG rfl) ((iY.one ha).cat hl)))
 ·exact yl hrec rfl
omit hrec in
theorem nT (n:Nat):Ret (bU S F n) fun x m=>S.kd x=6:=by
 unfold bU;refine ax (fun h=>gJ (n+1)) (fun _=>ax (fun h=>?_) (fun _=>gJ n))
 refine af (P:=fun _ _=>True) (fun _ _ _=>trivial) (fun _ m hm=>?_)
 refine af (P:=fun _ _=>True) (fun _ _ _=>trivial) (fun _ m2 h2=>?_)
 exact af (dC m2) (fun _ m3 h3=>gJ m3)
theorem Qn (n:Nat):Ret (lZ S rec d n) fun b m=>b.Fit S:=by
 unfold lZ;refine af (gJ n) (fun x m hx=>ax (fun h=>?_) (fun _=>ai (aS (gV rfl (by rw [hx]; rfl)) .nil)))
 exact af (hrec .ty (m+1) trivial) (fun b m2 hb=>ai (aS (gV rfl (by rw [hx]; rfl)) (.one hb)))
theorem Jm (n:Nat):Ret (gq S F rec d n) fun b m=>b.Fit S:=by
 unfold gq;refine af (nT n) (fun x m hx=>?_)
 refine af (dC m) (fun _ m2 h2=>?_)
 exact af (nN F (Qn hrec) m2) (fun l m3 hl=>ai (aS (gV rfl (by rw [hx]; rfl)) hl))
theorem qP {fr n:Nat}:Ret (bV S F rec d fr n) fun b m=>b.Fit S:=by
 unfold bV;exact af (nN F (Jm hrec) n) (fun l m hl=>ai (aS (dG rfl) hl))
theorem O3 (n:Nat):Ret (jG S F rec d n) fun b m=>b.Fit S:=by
 unfold jG;refine ax (fun h=>?_) (fun _=>ax (fun h=>?_) (fun _=>ax (fun h=>?_) (fun _=>ax (fun h=>?_) (fun _=>?_))))
 ·refine af (wM (n+1)) (fun x m hx=>?_)
  refine af (dC m) (fun _ m2 h2=>?_)
  exact af (hrec .ty m2 trivial) (fun b m3 hb=>ai (aS (gV rfl (nz hx)) (.one hb)))
 ·refine af (nT (n+1)) (fun x m hx=>ax (fun h2=>?_) (fun _=>ai (aS (gV rfl (by rw [hx]; rfl)) .nil)))
  exact af (hrec .ty (m+1) trivial) (fun b m3 hb=>ai (aS (gV rfl (by rw [hx]; rfl)) (.one hb)))
 ·exact qP hrec
 ·refine af (gJ (n+1)) (fun x m hx=>?_)
  refine af (dC m) (fun _ m2 h2=>?_)
  exact af (hrec .sig m2 trivial) (fun b m3 hb=>ai (aS (gV rfl (by rw [hx]; rfl)) (.one hb)))
 ·refine af (dC n) (fun _ m2 h2=>?_)
  exact af (hrec .sig m2 trivial) (fun b m3 hb=>ai (aS (dG rfl) (.one hb)))
theorem JU:∀ (f:Nat) (acc:List Pb) (n:Nat),iY S acc→Ret (iF S F rec d f acc n) fun l m=>iY S l:=by
 intro f
 induction f with
 | zero=>intro acc n _; exact bQ
 | succ f ih =>
  intro acc n h;unfold iF;refine ax (fun hc=>ai h) (fun _=>ax (fun hc=>ih _ _ h) (fun _=>?_))
  exact af (O3 hrec n) (fun b m hb=>ih _ _ (h.cat (.one hb)))
theorem En (n:Nat):Ret (dU S F rec d n) fun b m=>b.Fit S:=by
 unfold dU;refine ax (fun h=>?_) (fun _=>af (gJ n) (fun x m hx=>ai (aS (gV rfl (by rw [hx]; rfl)) .nil)))
 exact af (JU hrec F [] (n+1) .nil) (fun l m hl=>ai (aS (dG rfl) hl))
theorem I4 (p:Nat):∀ (f:Nat) (b:Pb) (n:Nat),b.Fit S→Ret (iK S rec d p f b n) fun b m=>b.Fit S:=by
 intro f
 induction f with
 | zero=>intro b n _; exact bQ
 | succ f ih =>
  intro b n h;unfold iK;refine ax (fun hc=>?_) (fun _=>ai h)
  refine af (dC (n+1)) (fun _ m h1=>?_)
  refine af (lN m) (fun p m2 hp=>?_)
  refine af (dC m2) (fun _ m3 h3=>?_)
  exact af (hrec .ty m3 trivial) (fun c m4 hb=>ih _ _ (aS (KF hp) ⟨h,hb,trivial⟩))
theorem Qi (n:Nat):Ret (oh S F rec d n) fun b m=>b.Fit S:=by
 unfold oh;exact af (En hrec n) (fun b m hb=>I4 hrec n F b m hb)
theorem EC (n:Nat):Ret (dV S F rec d n) fun b m=>b.Fit S:=by
 unfold dV;refine ax (fun h=>?_) (fun _=>ax (fun h=>?_) (fun _=>af (tu n) (fun p m hp=>ai (aS (zD (.inr (.inl rfl)) hp) .nil))))
 ·refine af (xK hrec 1 (n+1)) (fun l m hl=>?_)
  exact af (dC m) (fun _ m2 h2=>ai (aS (dG rfl) hl))
 ·simp only [Bool.and_eq_true,beq_iff_eq] at h
  refine af (hrec .str (n+2) trivial) (fun b m hb=>?_)
  exact af (dC m) (fun _ m2 h2=>ai (aS (gV rfl (by rw [h.1]; rfl)) (.one hb)))
theorem Nl (p:Nat):∀ (f:Nat) (b:Pb) (n:Nat),b.Fit S→Ret (kH S rec d p f b n) fun b m=>b.Fit S:=by
 intro f
 induction f with
 | zero=>intro b n _; exact bQ
 | succ f ih =>
  intro b n h;unfold kH;refine ax (fun _=>ai h) (fun hc=>?_)
  exact af (hrec .sig (n+1) trivial) (fun s m hs=>ih _ _ (rW (aS (dG rfl) ⟨h,hs,trivial⟩)))
theorem Qk (n:Nat):Ret (nO S F rec d n) fun b m=>b.Fit S:=by
 unfold nO;exact af (EC hrec n) (fun b m hb=>Nl hrec n F b m hb)
theorem Ed (n:Nat):Ret (jw S rec d n) fun l m=>iY S l.2:=by
 unfold jw;refine af (P:=fun l m=>iY S l) (ax (fun _=>ai .nil) (fun hc=>?_)) (fun l m hl=>?_)
 ·exact af (hrec .sig (n+1) trivial) (fun s m hs=>ai (.one hs))
 ·refine af (dC m) (fun _ m2 h2=>?_)
  exact af (hrec .str m2 trivial) (fun b m3 hb=>ai (hl.cat (.one hb)))
theorem yP {fr n:Nat}:Ret (cO S rec d fr n) fun b m=>b.Fit S:=by
 unfold cO;refine af (gJ n) (fun x m hx=>?_)
 exact af (Ed hrec m) (fun l m2 hl=>ai (rW (aS (gV rfl (by rw [hx]; rfl)) hl)))
theorem DX {fr n:Nat}:Ret (dS S rec d fr n) fun b m=>b.Fit S:=by
 unfold dS;refine af (gJ n) (fun x m hx=>?_)
 refine af (dC m) (fun _ m2 h2=>?_)
 refine af (gJ m2) (fun y m3 hy=>?_)
 refine af (dC m3) (fun _ m4 h4=>?_)
 refine af (hrec .sig m4 trivial) (fun g m5 hg=>?_)
 refine af (dC m5) (fun _ m6 h6=>?_)
 refine af (Ed hrec m6) (fun l m7 hl=>ai (rW (aS ⟨by decide,rfl,fun i hi=>?_⟩ ((iY.one hg).cat hl))))
 have hi':i < 2:=by simpa using hi
 match i,hi' with
 | 0,_=>show okK 6 (S.kd x)=true; rw [hx]; rfl
 | 1,_=>show okK 4 (S.kd y)=true; rw [hy]; rfl
theorem QS:∀ (f:Nat) (acc:List Pb) (n:Nat),iY S acc→Ret (pI S F rec d f acc n) fun l m=>iY S l:=by
 intro f
 induction f with
 | zero=>intro acc n _; exact bQ
 | succ f ih =>
  intro acc n h;unfold pI;exact ax (fun _=>af (jW hrec n) (fun b m hb=>ih _ _ (h.cat (.one hb)))) (fun _=>ai h)
theorem Ad (n:Nat):Ret (cZ S F rec d n) fun b m=>b.Fit S:=by
 unfold cZ;refine af (wM n) (fun x m hx=>?_)
 refine af (jW hrec m) (fun b m2 hb=>?_)
 refine af (QS hrec F [b] m2 (.one hb)) (fun l m3 hl=>?_)
 refine af (dC m3) (fun _ m4 h4=>?_)
 exact af (hrec .exp m4 trivial) (fun e m5 he=>ai (aS (gV rfl (nz hx)) (hl.cat (.one he))))
theorem JR {fr n:Nat} (a:Nat):Ret (iE S F rec d fr a n) fun b m=>b.Fit S:=by
 unfold iE;refine af (rO hrec a n) (fun x m hx=>?_)
 refine af (dC m) (fun _ m2 h2=>?_)
 refine af (rO hrec a m2) (fun y m3 hy=>?_)
 exact af (dC m3) (fun _ m4 h4=>ai (aS (dG rfl) ⟨hx,hy,trivial⟩))
theorem RJ (a n:Nat):Ret (nS S F rec d a n) fun b m=>b.Fit S:=by
 unfold nS;refine ax (fun h=>?_) (fun q1=>ax (fun h=>?_) (fun q2=>ax (fun h=>?_) (fun q3=>ax (fun h=>?_) (fun q4=>ax (fun h=>?_) (fun q5=>ax (fun h=>?_) (fun q6=>ax (fun h=>?_) (fun q7=>ax (fun h=>?_) (fun q8=>?_))))))))
 ·refine af (hrec .pat (n+1) trivial) (fun p m hp=>?_)
  refine af (dC m) (fun _ m2 h2=>?_)
  exact af (hrec .exp m2 trivial) (fun e m3 he=>ai (aS (dG rfl) ⟨hp,he,trivial⟩))
 ·exact af (nN F (Ad hrec) (n+1)) (fun l m hl=>ai (aS (dG rfl) hl))
 ·refine af (nT (n+1)) (fun x m hx=>?_)
  refine af (dC m) (fun _ m2 h2=>?_)
  exact af (hrec .ty m2 trivial) (fun b m3 hb=>ai (aS (gV rfl (by rw [hx]; rfl)) (.one hb)))
 ·exact qP hrec
 ·exact yP hrec
 ·refine af (gJ (n+1)) (fun x m hx=>?_)
  refine af (dC m) (fun _ m2 h2=>?_)
  exact af (hrec .sig m2 trivial) (fun b m3 hb=>ai (aS (gV rfl (by rw [hx]; rfl)) (.one hb)))
 ·exact DX hrec
 ·exact af (tu (n+1)) (fun p m hp=>ai (aS (zD (.inl rfl) hp) .nil))
 ·exact JR hrec a
end
theorem MO:∀ (f:Nat) (nt:Nt) (d n:Nat),S.may nt n→Ret (parts S f nt d n) fun b m=>b.Fit S:=by
 intro f
 induction f with
 | zero=>intro nt d n _; exact bQ
 | succ f ih =>
  intro nt d n hm;unfold parts;refine ax (fun _=>wV) (fun _=>?_)
  have hrec:∀ nt k,S.may nt k→Ret (parts S f nt (d+1) k) fun b m=>b.Fit S:=fun nt k hk=>ih nt (d+1) k hk
  cases nt with
  | exp=>exact RI hrec n
  | pat=>exact Rf hrec n
  | ty=>exact UQ hrec n
  | sig=>exact Qi hrec n
  | str=>exact Qk hrec n
  | dec a=>exact RJ hrec a n
theorem OD (F:Nat):Ret (jo S F 0) fun b m=>b.Fit S:=by
 unfold jo;exact af (xK (F:=F) (rec:=parts S F) (d:=0) (fun nt k hk=>MO F nt 0 k hk) 2 0) (fun l m hl=>ai (aS (dG rfl) hl))
end
structure BA where
 y:Br
 b:Nat
 o:Nat
abbrev BA.ad (e:BA):Addr:=⟨e.b,e.o,none⟩
def bM (b:Nat):Nat→List Br→List BA
 | _,[]=>[]
 | o,k :: r=>⟨k,b,o⟩ :: bM b (o+6) r
theorem lm (b:Nat) (l:List Br):∀ o,(bM b o l).map BA.y=l:=by
 induction l with
 | nil=>intro o; rfl
 | cons x r ih=>intro o; simp only [bM,List.map_cons,ih]
theorem jA (b:Nat) (l:List Br):∀ o i:Nat,(bM b o l)[i]?=l[i]?.map fun k=>(⟨k,b,o+i * 6⟩:BA):=by
 induction l with
 | nil=>intro o i; simp [bM]
 | cons x r ih =>
  intro o i
  cases i with
  | zero=>simp [bM]
  | succ i =>
   simp only [bM,List.getElem?_cons_succ,ih];rw [show o+6+i * 6=o+(i+1) * 6 by omega]
def BA.kids (e:BA):List BA:=match e.y.h.kp with
 | some a=>bM a.block a.off e.y.ks
 | none=>[]
structure BA.Good (e:BA) (w:World):Prop where
 at_:fA w e.b e.o e.y.h
 lies:e.y.Lies w
 lt:e.b < w.heap.size
theorem xO (e:BA) (w:World) (h:e.Good w):e.kids.map BA.y=e.y.ks:=by
 obtain ⟨_,hk,_⟩:=(dE _ _).1 h.lies;unfold BA.kids;obtain ⟨hn,h0 | ⟨b,off,hp,_⟩⟩:=hk
 ·have:e.y.ks=[]:=List.length_eq_zero_iff.1 (by omega)
  rw [this]
  cases e.y.h.kp <;> simp [bM]
 ·rw [hp]
  exact lm _ _ _
theorem tH (e:BA) (w:World) (h:e.Good w):e.kids.length=e.y.ks.length:=by
 rw [← xO e w h,List.length_map]
theorem Hm (e:BA) (w:World) (h:e.Good w):e.kids.length=0∨∃ b off,e.y.h.kp=some ⟨b,off,none⟩∧e.kids.length≤e.y.h.kc∧∀ i e',e.kids[i]?=some e'→BA.ad e'=⟨b,off+i * 6,none⟩:=by
 obtain ⟨_,hk,_⟩:=(dE _ _).1 h.lies;have hl:=tH e w h;obtain ⟨hn,h0 | ⟨b,off,hp,hc,_⟩⟩:=hk
 ·left; omega
 ·right
  refine ⟨b,off,hp,by omega,fun i e' he=>?_⟩
  unfold BA.kids at he;rw [hp] at he;simp only [jA,Option.map_eq_some_iff] at he;obtain ⟨k,_,rfl⟩:=he
  rfl
theorem zI (e:BA) (w:World) (h:e.Good w):∀ x ∈ e.kids,x.Good w:=by
 intro x hx;obtain ⟨_,hk,hall⟩:=(dE _ _).1 h.lies;obtain ⟨hn,h0 | ⟨b,off,hp,hc,hb,hat⟩⟩:=hk
 ·have hl:=tH e w h
  have:e.kids=[]:=List.length_eq_zero_iff.1 (by omega)
  rw [this] at hx; cases hx
 ·obtain ⟨i,hi,hxi⟩:=List.mem_iff_getElem.1 hx
  have hg:=List.getElem?_eq_getElem hi;rw [hxi] at hg;unfold BA.kids at hg;rw [hp] at hg;simp only [jA,Option.map_eq_some_iff] at hg;obtain ⟨k,hk2,rfl⟩:=hg;obtain ⟨hi',rfl⟩:=List.getElem?_eq_some_iff.1 hk2;exact ⟨hat i hi',hall _ (List.getElem_mem hi'),hb⟩
theorem BA.Good.step {e:BA} {w w':World} (h:e.Good w) (hb:Below w.heap.size w w'):e.Good w':=⟨h.at_.step h.lt hb,h.lies.step _ hb,Nat.lt_of_lt_of_le h.lt hb.size⟩
theorem fG (y:Br):y.flatB=y :: aV y.ks:=by cases y; simp only [Br.flatB,Br.ks]
def szB (e:BA):Nat:=e.y.flatB.length
theorem uP (l:List BA):szs szB l=(aV (l.map BA.y)).length:=by
 induction l with
 | nil=>rfl
 | cons x r ih=>simp only [szs,List.map_cons,aV,List.length_append,ih,szB]
theorem Yf (args:Array Value) (w:World):Sem.run prog (callFunc 126 args) w=.ok (.enter 126 args) w:=bu func126 (by kernel_rfl) (by kernel_rfl) args w
theorem xh (e0:BA) (w0 wS:World) (hg0:e0.Good w0) (hsz:e0.y.flatB.length≤10000000) (fw:Nat) (cw:Array Value) (hcw:∀ args w,Sem.run prog (callFunc fw args) w=.ok (.enter fw args) w)
  (A:List Br→Nat→World→Prop)
  (stab:∀ l g w w' g',A l g w→w.grownBy w' (some g)→(g'=g∨w.heap.size≤g')→A l g' w')
  (low:∀ l g w,A l g w→Below w0.heap.size w0 w)
  (HW:∀ l (e:BA) r g w,A l g w→g < w.heap.size→e.Good w0→l++e.y :: r=e0.y.flatB→Calls prog fw (#[.pointer (some e.ad)]++cw) w fun x w'=>x=.returned (.bool true)∧A (l++[e.y]) g w'∧w.heap.size≤w'.heap.size∧w'.heap[g]?=w.heap[g]?)
  (h0:∀ w',Below wS.heap.size wS w'→A [] wS.heap.size w') :
  Calls prog 125 #[.pointer (some e0.ad),.func (.func 126) #[] #[],.func (.func fw) #[] cw] wS fun x w'=>x=.returned (.bool true)∧∃ g,A e0.y.flatB g w':=by
 have szK:∀ e:BA,szs szB e.kids+1≤szB e:=fun e=>by
  rw [uP,szB,fG,List.length_cons]
  have:(aV (e.kids.map BA.y)).length≤(aV e.y.ks).length:=by
   unfold BA.kids
   cases e.y.h.kp with
   | none=>simp [aV]
   | some a =>
    simp only
    rw [lm];exact Nat.le_refl _
  omega
 refine (Jh BA.ad szB (fun e=>mM e.y)
  (fun st g w=>∃ l,A l g w∧l++aV (st.map BA.y)=e0.y.flatB∧∀ e ∈ st,e.Good w0)
  (fun e st g w=>∃ l,A (l++[e.y]) g w∧l++e.y :: (aV e.y.ks++aV (st.map BA.y))=e0.y.flatB∧e.Good w0∧∀ e ∈ st,e.Good w0)
  (fun st g w w' g' ⟨l,h1,h2,h3⟩ h4 h5=>⟨l,stab _ _ _ _ _ h1 h4 h5,h2,h3⟩)
  126 fw #[] cw Yf hcw ?_ ?_ e0 wS hsz (fun w' hb=>⟨[],h0 w' hb,by simp [aV],fun e he=>by rw [List.mem_singleton.1 he]; exact hg0⟩)).mono ?_
 ·rintro e st g w ⟨l,h1,h2,h3⟩ hgl
  have he:=h3 e (by simp);have hx:l++e.y :: (aV e.y.ks++aV (st.map BA.y))=e0.y.flatB:=by
   rw [← h2,List.map_cons,aV,fG]; simp
  refine (HW l e _ g w h1 hgl he hx).mono ?_
  rintro x w' ⟨rfl,h4,h5,h6⟩;exact ⟨rfl,⟨l,h4,hx,he,fun z hz=>h3 z (by simp [hz])⟩,h5,h6⟩
 ·rintro e st g w ⟨l,h1,h2,h3,h4⟩ hgl
  have he:=h3.step (low _ _ _ h1);refine (wU e.b e.o e.y.h w he.at_).mono ?_
  rintro x w' ⟨rfl,rfl⟩;have hkl:=tH e w0 h3;have hkn:e.y.h.kn=e.kids.length:=by
   have:=((dE _ _).1 h3.lies).2.1.1
   omega
  refine ⟨e.y.h.kp,e.y.h.kc,e.kids,by rw [hkn],szK e,Hm e w0 h3,⟨l++[e.y],h1,?_,?_⟩,Nat.le_refl _,rfl⟩
  ·rw [List.map_append,lY,xO e w0 h3,← h2]; simp
  ·intro z hz
   rcases List.mem_append.1 hz with hz | hz
   ·exact zI e w0 h3 z hz
   ·exact h4 z hz
 ·rintro x w' ⟨rfl,g,l,h1,h2,_⟩
  simp only [List.map_nil,aV,List.append_nil] at h2;exact ⟨rfl,g,by rw [← h2]; exact h1⟩
end Go.Proofs.YtmpmfamiegpmgaaGreatDoor
namespace Go.Proofs
open Go.Shelf
def Tryz.lays189_ren:Go.Shelf.Ren:=⟨fun | 189=>67 | 125=>104 | 257=>103 | 128=>150 | 129=>151 | 294=>141 | 295=>142 | 296=>143 | 297=>144 | 298=>145 | 299=>146 | 216=>147 | 300=>148 | 301=>149 | 328=>193 | 329=>194 | 330=>195 | 331=>196 | 332=>197 | 215=>198 | 343=>253 | n=>n,fun | 28=>23 | 3=>3 | 46=>175 | 0=>0 | 51=>224 | 53=>226 | 4=>4 | 183=>218 | 182=>217 | 131=>71 | 5=>5 | 9=>9 | 218=>243 | 222=>247 | 228=>268 | 229=>155 | n=>n,fun | n=>n⟩
theorem Tryz.lays189:Go.Proofs.Lays.n189 Tryz.prog Tryz.lays189_ren:={
 mixed:=by kernel_rfl
 f125:=Tryz.func104.trans (congrArg some (by kernel_rfl))
 f128:=Tryz.func150.trans (congrArg some (by kernel_rfl))
 f129:=Tryz.func151.trans (congrArg some (by kernel_rfl))
 f189:=Tryz.func67.trans (congrArg some (by kernel_rfl))
 f215:=Tryz.func198.trans (congrArg some (by kernel_rfl))
 f216:=Tryz.func147.trans (congrArg some (by kernel_rfl))
 f257:=Tryz.func103.trans (congrArg some (by kernel_rfl))
 f294:=Tryz.func141.trans (congrArg some (by kernel_rfl))
 f295:=Tryz.func142.trans (congrArg some (by kernel_rfl))
 f296:=Tryz.func143.trans (congrArg some (by kernel_rfl))
 f297:=Tryz.func144.trans (congrArg some (by kernel_rfl))
 f298:=Tryz.func145.trans (congrArg some (by kernel_rfl))
 f299:=Tryz.func146.trans (congrArg some (by kernel_rfl))
 f300:=Tryz.func148.trans (congrArg some (by kernel_rfl))
 f301:=Tryz.func149.trans (congrArg some (by kernel_rfl))
 f328:=Tryz.func193.trans (congrArg some (by kernel_rfl))
 f329:=Tryz.func194.trans (congrArg some (by kernel_rfl))
 f330:=Tryz.func195.trans (congrArg some (by kernel_rfl))
 f331:=Tryz.func196.trans (congrArg some (by kernel_rfl))
 f332:=Tryz.func197.trans (congrArg some (by kernel_rfl))
 f343:=Tryz.func253.trans (congrArg some (by kernel_rfl))
 t0:=Tryz.underlying0
 a0:=Tryz.isAgg0
 z0:=Tryz.sizeOf0
 v0:=Tryz.zeroValue0
 t3:=Tryz.underlying3
 a3:=Tryz.isAgg3
 z3:=Tryz.sizeOf3
 v3:=Tryz.zeroValue3
 t4:=Tryz.underlying4
 a4:=Tryz.isAgg4
 z4:=Tryz.sizeOf4
 v4:=Tryz.zeroValue4
 t5:=Tryz.underlying5
 a5:=Tryz.isAgg5
 z5:=Tryz.sizeOf5
 v5:=Tryz.zeroValue5
 t9:=Tryz.underlying9
 a9:=Tryz.isAgg9
 z9:=Tryz.sizeOf9
 v9:=Tryz.zeroValue9
 t28:=Tryz.underlying23
 a28:=Tryz.isAgg23
 z28:=Tryz.sizeOf23
 v28:=Tryz.zeroValue23
 t46:=Tryz.underlying175
 a46:=Tryz.isAgg175
 z46:=Tryz.sizeOf175
 v46:=Tryz.zeroValue175
 t51:=Tryz.underlying224
 a51:=Tryz.isAgg224
 z51:=Tryz.sizeOf224
 v51:=Tryz.zeroValue224
 t53:=Tryz.underlying226
 a53:=Tryz.isAgg226
 z53:=Tryz.sizeOf226
 v53:=Tryz.zeroValue226
 t131:=Tryz.underlying71
 a131:=Tryz.isAgg71
 z131:=Tryz.sizeOf71
 v131:=Tryz.zeroValue71
 t182:=Tryz.underlying217
 a182:=Tryz.isAgg217
 z182:=Tryz.sizeOf217
 v182:=Tryz.zeroValue217
 t183:=Tryz.underlying218
 a183:=Tryz.isAgg218
 z183:=Tryz.sizeOf218
 v183:=Tryz.zeroValue218
 t218:=Tryz.underlying243
 a218:=Tryz.isAgg243
 z218:=Tryz.sizeOf243
 v218:=Tryz.zeroValue243
 t222:=Tryz.underlying247
 a222:=Tryz.isAgg247
 z222:=Tryz.sizeOf247
 v222:=Tryz.zeroValue247
 t228:=Tryz.underlying268
 a228:=Tryz.isAgg268
 z228:=Tryz.sizeOf268
 v228:=Tryz.zeroValue268
 t229:=Tryz.underlying155
 a229:=Tryz.isAgg155
 z229:=Tryz.sizeOf155
 v229:=Tryz.zeroValue155 }
open Go.Sort Go.RowKit in
theorem Tryz.slices_Sort_int (blk off cap:Nat) (zs:List Int) (w:World) (hH:Holds (Value.int .i64) w blk off zs.toArray) (hblk:blk < w.heap.size) (hsz:zs.length < 4611686018427387904) :
  Calls Tryz.prog 67 #[.slice (some ⟨blk,off,none⟩) zs.length cap] w fun e w' =>
   e=.returned (.tuple #[])∧∃ n os,w'=grow (putRow (Value.int .i64) (Sort.ahead w n) blk off (zs.mergeSort fun x y=>decide (x≤y)).toArray) os:=Any.slices_Sort_int Tryz.lays189 blk off cap zs w hH hblk hsz
end Go.Proofs
