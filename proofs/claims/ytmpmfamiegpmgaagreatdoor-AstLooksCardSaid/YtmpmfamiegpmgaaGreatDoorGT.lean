/-
  A branch's parts in order; how few they are; what is known of a file that is read.; Of which space the names of a part are: how many it may have, and which tokens they may be.; The plain parser's branches have as many names as their kinds may have, and each name is a word, a cap or a sign as its space asks.; A walk over a branch's parts, each ahead of its kids: for any function that takes them one by one.; Contracts of the library, laid.; Contracts of the library, laid.
-/
import Derived.Test.YtmpmfamiegpmgaaGreatDoorGK
import Derived.Test.YtmpmfamiegpmgaaGreatDoorGS
import Derived.Test.YtmpmfamiegpmgaaGreatDoorGF
import Derived.Shelf.Sort.Plain
import Derived.Ground.Names2Prog
import Derived.Ground.SlgnProg
import Derived.Test.YtmpmfamiegpmgaaGreatDoorProg
import Derived.Shelf.Slices.CompactI
namespace Go.Proofs.YtmpmfamiegpmgaaGreatDoor
open Go.RowKit
set_option maxRecDepth 20000
set_option linter.unusedVariables false
set_option linter.unusedSimpArgs false
mutual
def Br.Few:Br→Prop
 | .mk h ks=>h.ns.length≤1000000∧ks.length≤1000000∧vJ ks
def vJ:List Br→Prop
 | []=>True
 | b :: r=>b.Few∧vJ r
end
theorem fM (ks:List Br):vJ ks ↔ ∀ b ∈ ks,b.Few:=by
 induction ks with
 | nil=>simp [vJ]
 | cons x r ih=>simp [vJ,ih]
theorem P5 {l:List Pb} {b:Pb} (h:b ∈ l):b.wt≤wtL l:=by
 induction l with
 | nil=>cases h
 | cons x r ih =>
  simp only [wtL]
  rcases List.mem_cons.1 h with rfl | h
  ·omega
  ·have:=ih h; omega
theorem TU (b:Pb):1≤b.wt:=by cases b; simp only [Pb.wt]; omega
theorem Qc (l:List Pb):l.length≤wtL l:=by
 induction l with
 | nil=>simp
 | cons x r ih=>have:=TU x; simp only [wtL,List.length_cons]; omega
theorem IG (y:Br):y.pb.wt≤1000000→y.Few:=by
 induction y using Br.ind with
 | hP h ks ih =>
  intro hw;simp only [Br.pb,Pb.wt,eF] at hw;have h1:=Qc (ks.map Br.pb);rw [List.length_map] at h1;simp only [Br.Few,fM];refine ⟨by omega,by omega,fun b hb=>ih b hb ?_⟩
  have:=P5 (List.mem_map.2 ⟨b,hb,rfl⟩:b.pb ∈ ks.map Br.pb)
  omega
theorem gX (w:World) (h:Hd) (t:TypeId):bP (w.alloc (.cells #[.int .i64 h.k,.int .i64 h.m,.int .i64 h.f,.int .i64 h.t,.slice h.np h.nn h.nc,.slice h.kp h.kn h.kc] t)) w.heap.size 0 h:=by
 have hb:=heap_alloc_new w (.cells #[.int .i64 h.k,.int .i64 h.m,.int .i64 h.f,.int .i64 h.t,.slice h.np h.nn h.nc,.slice h.kp h.kn h.kc] t);refine ⟨?_,?_,?_,?_,?_,?_⟩ <;> (rw [Lib.cell_of_heap hb]; rfl)
theorem bP.box {w:World} {b:Nat} {h:Hd} (hat:bP w b 0 h):w.cell? ⟨b,0,none⟩=some (.int .i64 h.k)∧w.cell? ⟨b,1,none⟩=some (.int .i64 h.m)∧w.cell? ⟨b,2,none⟩=some (.int .i64 h.f) ∧
  w.cell? ⟨b,3,none⟩=some (.int .i64 h.t)∧w.cell? ⟨b,4,none⟩=some (.slice h.np h.nn h.nc)∧w.cell? ⟨b,5,none⟩=some (.slice h.kp h.kn h.kc):=by
 simpa [bP] using hat
abbrev Hd.obj (h:Hd):Obj:=.cells #[.int .i64 h.k,.int .i64 h.m,.int .i64 h.f,.int .i64 h.t,.slice h.np h.nn h.nc,.slice h.kp h.kn h.kc] 96
mutual
def Br.flatB:Br→List Br
 | .mk h ks=>.mk h ks :: aB ks
def aB:List Br→List Br
 | []=>[]
 | b :: r=>b.flatB++aB r
end
theorem iE (a b:List Br):aB (a++b)=aB a++aB b:=by
 induction a with
 | nil=>rfl
 | cons x r ih=>simp [aB,ih]
theorem ig (b:Br):1≤b.flatB.length:=by cases b; simp [Br.flatB]
theorem su {ks:List Br} {k:Nat} (h:k < ks.length):aB (ks.take (k+1))=aB (ks.take k)++ks[k].flatB:=by
 rw [List.take_succ_eq_append_getElem h,iE]; simp [aB]
theorem rO (ks:List Br) (k:Nat):(aB (ks.take k)).length≤(aB ks).length:=by
 conv=>rhs; rw [← List.take_append_drop k ks,iE,List.length_append]
 omega
theorem pM (ks:List Br):ks.length≤(aB ks).length:=by
 induction ks with
 | nil=>simp
 | cons x r ih=>have:=ig x; simp only [aB,List.length_append,List.length_cons]; omega
def nmK (k:Int):Bool:=k == 6 || k == 7 || k == 9
structure TJ (s:ByteArray) (x:Pb) (n:Nat):Prop where
 rt:x.Rt
 fr:x.fr=0
 to:x.to=(n:Int)
 len:n+1=(bC s).length
 wt:x.wt≤3 * n+1
 one:∀ y,x.cnt y≤1
 inn:∀ y,0 < x.cnt y→0≤y∧y < (n:Int)
 nm:∀ (y:Nat) (h:y < (bC s).length),0 < x.cnt (y:Int)→nmK (bC s)[y].k=true
 all:∀ (y:Nat) (h:y < (bC s).length),x.cnt (y:Int)=0→nmK (bC s)[y].k=true→s.extract (bC s)[y].a (bC s)[y].e=⟨#[42]⟩
theorem Ph {S:Src} (g:S.Good) (T:S.ts=bC S.s) {x:Pb} {n:Nat} (h:gJ S (nG S)=.ok x n):TJ S.s x n:=by
 have hf:=xy g (F:=fuel S) (Nat.le_refl _) (NS S T);unfold gJ nG at h
 cases hx:jq S (fuel S) 0 with
 | ok y k =>
  rw [hx] at h hf;have hk:k < S.ts.length:=hf.2;simp only [Out.bind] at h
  cases hz:(S.kd k == 0)
  ·rw [hz] at h; cases h
  ·rw [hz] at h
   simp only [cond_true] at h
   injection h with e1 e2
   subst e1 e2;have hend:=(g.fin k hk).1 (by rw [← S.kd_at hk]; exact beq_iff_eq.1 hz);have q:=Lj T (fuel S) y k hx;have hft:y.fr=0∧y.to=(k:Int):=by
    unfold jq at hx
    cases hd:iy S (fuel S) (parts S (fuel S)) 0 2 0 with
    | ok l m =>
     rw [hd] at hx;simp only [Out.bind] at hx
     injection hx with e1 e2
     subst e1 e2;exact ⟨rfl,rfl⟩
    | form m=>rw [hd] at hx; cases hx
    | deep m=>rw [hd] at hx; cases hx
    | dry=>rw [hd] at hx; cases hx
   have hnm:∀ (z:Nat) (hz:z < S.ts.length),S.nm z=nmK S.ts[z].k:=fun z hz=>by
    unfold Src.nm nmK; rw [S.kd_at hz]
   refine ⟨q.rt,hft.1,hft.2,by rw [← T]; exact hend,MF (fuel S) y k hx,q.cov.one,fun z hz=>by have:=q.cov.inn z hz; omega,fun z hz hc=>?_,fun z hz hc hn=>?_⟩
   ·have:=q.cov.nm z hc
    rw [hnm z (by rw [T]; exact hz)] at this
    simpa only [T] using this
   ·have hz2:z < S.ts.length:=by rw [T]; exact hz
    have h1:nmK S.ts[z].k=true:=by simpa only [T] using hn
    have hlt:z < k:=by
     rcases Nat.lt_or_ge z k with h | h
     ·exact h
     ·have e:z=k:=by omega
      subst e
      have:=(g.fin z hz2).2 hend
      rw [this] at h1; exact absurd h1 (by decide)
    rcases hs:S.is z [42] with _ | _
    ·have:=q.cov.all z (by omega) hlt (by rw [hnm z hz2]; exact h1) hs
     exact absurd hc (Nat.ne_of_gt this)
    ·have h2:S.s.extract (bC S.s)[z].a (bC S.s)[z].e=S.tx z:=by rw [S.tx_at hz2]; simp only [T]
     rw [h2]
     apply H9
     simpa [Src.is] using hs
 | form k=>rw [hx] at h; cases h
 | deep k=>rw [hx] at h; cases h
 | dry=>rw [hx] at h; cases h
def tN (x:Int):List Br→Nat
 | []=>0
 | b :: r=>b.h.ns.count x+tN x r
theorem BM (x:Int) (a b:List Br):tN x (a++b)=tN x a+tN x b:=by
 induction a with
 | nil=>simp [tN]
 | cons y r ih=>simp only [List.cons_append,tN,ih]; omega
theorem xZ (x:Int) (b:Br):tN x b.flatB=b.pb.cnt x:=by
 induction b using Br.ind with
 | hP h ks ih =>
  have:tN x (aB ks)=nR x (ks.map Br.pb):=by
   clear h
   induction ks with
   | nil=>rfl
   | cons y r ih2 =>
    simp only [aB,BM,List.map_cons,nR];rw [ih y (by simp),ih2 (fun z hz=>ih z (by simp [hz]))]
  simp only [Br.flatB,tN,Br.h,Br.pb,Pb.cnt,eF,this]
theorem oN {y:Br} {ks:List Br} (h:y ∈ aB ks):∃ k ∈ ks,y ∈ k.flatB:=by
 induction ks with
 | nil=>cases h
 | cons z r ih =>
  simp only [aB] at h
  rcases List.mem_append.1 h with h | h
  ·exact ⟨z,by simp,h⟩
  ·obtain ⟨k,h1,h2⟩:=ih h
   exact ⟨k,by simp [h1],h2⟩
def pre (x:Int) (F:List Br) (i:Nat) (ns:List Int):Nat:=tN x (F.take i)+ns.count x
def jK (k:Int):Int :=
 bif k == 5 || k == 39 || k == 40 || k == 22 then 1 else bif k == 6 || k == 8 || k == 23 then 3 else bif k == 9 then 2 else bif k == 10 || k == 24 then 4 else bif k == 11 then 5 else 0
def jX (k:Int):Bool:=k == 13 || k == 16 || k == 28 || k == 29 || k == 42 || k == 21
def yZ (k:Int):Int:=bif k == 28 then 1 else bif k == 29 then 2 else bif k == 42 || k == 21 then 3 else 4
def kQ (k:Int) (n:Nat):Bool :=
 bif !(jK k == 0) || k == 20 || k == 17 then n == 1 else bif k == 12 then n == 2 else bif jX k || k == 37 then !(n == 0) else n == 0
def jH (k:Int) (i n:Nat):Int × Bool :=
 bif !(jK k == 0) then (jK k,true)
 else bif k == 12 then (bif i == 0 then (6,true) else (4,true))
 else bif k == 37 then (1,false) else bif k == 20 then (5,false) else bif k == 17 then (6,false)
 else bif jX k then (bif i+1 == n then (yZ k,false) else (4,false)) else (0,false)
def okK (sp tk:Int):Bool:=bif sp == 1 then tk == 6 || tk == 9 else bif sp == 3 then tk == 6 else tk == 7
def zh (S:Src) (k:Int) (ns:List Int):Prop:=(1≤k∧k≤44)∧kQ k ns.length=true∧∀ i,(h:i < ns.length)→okK (jH k i ns.length).1 (S.kd ns[i].toNat)=true
mutual
def Pb.Fit (S:Src):Pb→Prop
 | .mk k _ _ _ ns ks=>zh S k ns∧gZ S ks
def gZ (S:Src):List Pb→Prop
 | []=>True
 | b :: r=>b.Fit S∧gZ S r
end
theorem BJ (S:Src) (l:List Pb):gZ S l ↔ ∀ b ∈ l,b.Fit S:=by
 induction l with
 | nil=>simp [gZ]
 | cons x r ih=>simp [gZ,ih]
section
variable {S:Src}
theorem gZ.nil:gZ S []:=trivial
theorem gZ.cat {a b:List Pb} (h:gZ S a) (g:gZ S b):gZ S (a++b):=by
 rw [BJ] at *;intro x hx;exact (List.mem_append.1 hx).elim (h x) (g x)
theorem gZ.one {b:Pb} (h:b.Fit S):gZ S [b]:=⟨h,trivial⟩
theorem aJ {k:Int} {f t:Nat} {ns:List Nat} {l:List Pb} (hn:zh S k (ns.map fun x:Nat=>(x:Int))) (hl:gZ S l):(node k f t ns l).Fit S:=⟨hn,hl⟩
theorem pV {m:Int} {b:Pb} (h:b.Fit S):(marked m b).Fit S:=by
 cases b; exact h
theorem df {k:Int} (h:kQ k 0=true) (hb:1≤k∧k≤44:=by decide):zh S k (([]:List Nat).map fun x:Nat=>(x:Int)):=⟨hb,h,fun i hi=>by cases hi⟩
theorem fJ {k:Int} {x:Nat} (h:kQ k 1=true) (hx:okK (jH k 0 1).1 (S.kd x)=true) (hb:1≤k∧k≤44:=by decide):zh S k ([x].map fun x:Nat=>(x:Int)) :=
 ⟨hb,h,fun i hi=>by
  have:i=0:=by simpa using hi
  subst this; exact hx⟩
theorem oI {k:Int} {p:List Nat} {x:Nat} (hk:jX k=true) (ho:jK k=0) (h12:(k == 12)=false) (h37:(k == 37)=false) (h20:(k == 20)=false) (h17:(k == 17)=false) (hp:∀ y ∈ p,S.kd y=7) (hx:okK (yZ k) (S.kd x)=true) (hb:1≤k∧k≤44:=by decide) :
  zh S k ((p++[x]).map fun x:Nat=>(x:Int)):=by
 refine ⟨hb,?_,fun i hi=>?_⟩
 ·simp [kQ,ho,h12,h20,h17,hk]
 ·simp only [List.length_map,List.length_append,List.length_singleton] at hi
  simp only [jH,ho,h12,h37,h20,h17,hk,beq_self_eq_true,Bool.not_true,cond_false,cond_true,List.length_map,List.length_append,List.length_singleton,List.getElem_map,Int.toNat_natCast]
  by_cases he:i=p.length
  ·subst he
   simp only [beq_self_eq_true,cond_true,List.getElem_append_right (Nat.le_refl _),Nat.sub_self,List.getElem_cons_zero];exact hx
  ·have hb:(i+1 == p.length+1)=false:=by simp; omega
   rw [hb,cond_false];rw [List.getElem_append_left (by omega)]
   have:=hp _ (List.getElem_mem (by omega:i < p.length))
   rw [this]; rfl
theorem JL {ns:List Nat} (h0:ns≠[]) (h:∀ x ∈ ns,S.kd x=9):zh S 37 (ns.map fun x:Nat=>(x:Int)):=by
 refine ⟨by decide,?_,fun i hi=>?_⟩
 ·have:ns.length≠0:=fun e=>h0 (List.length_eq_zero_iff.1 e)
  simp [kQ,jK,jX,this]
 ·have hi':i < ns.length:=by simpa using hi
  have:=h _ (List.getElem_mem hi')
  simp only [List.getElem_map,Int.toNat_natCast,this]
  rfl
theorem rQ {k:Int} {n m:Nat} {l:List Pb} (hk:kQ k 0=true) (h:gZ S l) (hb:1≤k∧k≤44:=by decide):(fB l k n m []).Fit S:=by
 unfold fB
 split
 ·exact h.1
 ·exact aJ (df hk hb) h
def PF (S:Src) (ks:List Int) (l:List Nat):Prop:=∃ p x,l=p++[x]∧(∀ y ∈ p,S.kd y=7)∧ks.contains (S.kd x)=true
theorem yV {ks:List Int} (n:Nat):Ret (S.take ks n) fun x m=>x=n∧m=n+1∧ks.contains (S.kd x)=true:=by
 unfold Src.take;exact ak (fun h=>ah ⟨rfl,rfl,h⟩) (fun _=>iV)
theorem fD {k:Int} (n:Nat):Ret (S.take [k] n) fun x m=>S.kd x=k:=(yV n).mono fun x m h=>by simpa using h.2.2
theorem bU {t:List UInt8} (n:Nat):Ret (S.need t n) fun _ _=>True:=fun _ _ _=>trivial
theorem LW {ks:List Int}:∀ (f:Nat) (acc:List Nat) (n:Nat),(∃ p x,acc=p++[x]∧x+1=n∧(∀ y ∈ p,S.kd y=7)∧ks.contains (S.kd x)=true)→Ret (S.pathL ks f acc n) fun l m=>∃ p x,l=p++[x]∧x+1=m∧(∀ y ∈ p,S.kd y=7)∧ks.contains (S.kd x)=true:=by
 intro f
 induction f with
 | zero=>intro acc n _; exact bI
 | succ f ih =>
  intro acc n h;unfold Src.pathL;refine ak (fun hc=>?_) (fun _=>ah h)
  simp only [Bool.and_eq_true,beq_iff_eq] at hc;obtain ⟨p,x,rfl,rfl,hp,hx⟩:=h;refine af (yV (x+1+1)) (fun y m hy=>ih _ _ ⟨p++[x],y,rfl,by omega,fun z hz=>?_,hy.2.2⟩)
  rcases List.mem_append.1 hz with hz | hz
  ·exact hp z hz
  ·have:z=x:=by simpa using hz
   rw [this]; exact hc.1
theorem yL {ks:List Int} (n:Nat):Ret (S.path ks n) fun l m=>∃ p x,l=p++[x]∧x+1=m∧(∀ y ∈ p,S.kd y=7)∧ks.contains (S.kd x)=true:=by
 unfold Src.path;exact af (yV n) (fun x m hx=>LW _ _ _ ⟨[],x,rfl,by omega,fun y hy=>(by cases hy),hx.2.2⟩)
theorem qV (n:Nat):Ret (S.path [7] n) fun l m=>∃ p x,l=p++[x]∧(∀ y ∈ p,S.kd y=7)∧S.kd x=7 :=
 (yL n).mono fun l m ⟨p,x,h1,_,h2,h3⟩=>⟨p,x,h1,h2,by simpa using h3⟩
theorem lC (n:Nat):Ret (S.typePath n) fun l m=>∃ p x,l=p++[x]∧(∀ y ∈ p,S.kd y=7)∧S.kd x=6:=by
 unfold Src.typePath;refine af (yL n) (fun l m ⟨p,x,h1,h2,h3,h4⟩=>ak (fun hc=>ah ⟨p,x,h1,h3,?_⟩) (fun _=>iV))
 rw [← h2,Nat.add_sub_cancel] at hc
 simpa using hc
theorem Fj {l:List Nat} (h:∃ p x,l=p++[x]∧(∀ y ∈ p,S.kd y=7)∧S.kd x=6):zh S 42 (l.map fun x:Nat=>(x:Int)):=by
 obtain ⟨p,x,rfl,h1,h2⟩:=h;exact oI rfl rfl rfl rfl rfl rfl h1 (by rw [h2]; rfl)
theorem IC {l:List Nat} (h:∃ p x,l=p++[x]∧(∀ y ∈ p,S.kd y=7)∧S.kd x=6):zh S 21 (l.map fun x:Nat=>(x:Int)):=by
 obtain ⟨p,x,rfl,h1,h2⟩:=h;exact oI rfl rfl rfl rfl rfl rfl h1 (by rw [h2]; rfl)
theorem xM {k:Int} {l:List Nat} (hk:k=13∨k=16∨k=29) (h:∃ p x,l=p++[x]∧(∀ y ∈ p,S.kd y=7)∧S.kd x=7):zh S k (l.map fun x:Nat=>(x:Int)):=by
 obtain ⟨p,x,rfl,h1,h2⟩:=h
 rcases hk with rfl | rfl | rfl <;> exact oI rfl rfl rfl rfl rfl rfl h1 (by rw [h2]; rfl)
theorem wC (n:Nat):Ret (S.value n) fun x m=>S.kd x=6∨S.kd x=9:=by
 unfold Src.value;exact ak (fun h=>(fD (n+1)).mono fun x m hx=>.inr hx) (fun _=>(fD n).mono fun x m hx=>.inl hx)
theorem lZ {x:Nat} (h:S.kd x=6∨S.kd x=9):okK 1 (S.kd x)=true:=by rcases h with h | h <;> rw [h] <;> rfl
theorem PT {mark:List UInt8} {read:Nat→Out Pb} (hr:∀ k,Ret (read k) fun b m=>b.Fit S):∀ (f:Nat) (acc:List Pb) (n:Nat),gZ S acc→Ret (nX S mark read f acc n) fun l m=>gZ S l:=by
 intro f
 induction f with
 | zero=>intro acc n _; exact bI
 | succ f ih =>
  intro acc n h;unfold nX;refine ak (fun hc=>?_) (fun _=>ah h)
  exact af (hr (n+1)) (fun b m hb=>ih _ _ (h.cat (.one hb)))
theorem mJ (F:Nat) {mark:List UInt8} {read:Nat→Out Pb} (hr:∀ k,Ret (read k) fun b m=>b.Fit S) (n:Nat):Ret (gK S F mark read n) fun l m=>gZ S l:=by
 unfold gK;exact af (hr n) (fun b m hb=>PT hr F [b] m (.one hb))
section
variable {F:Nat} {rec:Nt→Nat→Nat→Out Pb} {d:Nat} (hrec:∀ nt k,S.may nt k→Ret (rec nt d k) fun b m=>b.Fit S)
include hrec
theorem zQ (n:Nat):Ret (dZ S F rec d n) fun b m=>b.Fit S:=by
 unfold dZ;refine ak (fun h=>ah (aJ (df rfl) .nil)) (fun _=>ak (fun h=>?_) (fun _=>?_))
 ·refine af (mJ F (fun k=>hrec .ty k trivial) (n+1)) (fun l m hl=>?_)
  refine af (bU m) (fun _ m2 h2=>?_)
  unfold qH
  split
  ·exact ah hl.1
  ·exact af (lC m2) (fun p m3 hp=>ah (aJ (Fj hp) hl))
 ·exact af (lC n) (fun p m3 hp=>ah (aJ (Fj hp) .nil))
theorem Dp (n:Nat):∀ (f:Nat) (b:Pb) (m:Nat),b.Fit S→Ret (dX S n f b m) fun b m=>b.Fit S:=by
 have _:=hrec;intro f
 induction f with
 | zero=>intro b m _; exact bI
 | succ f ih =>
  intro b m h;unfold dX;exact ak (fun _=>af (lC m) (fun p m1 hp=>ih _ _ (aJ (Fj hp) (.one h)))) (fun _=>ah h)
theorem BX (n:Nat):Ret (dK S F rec d n) fun b m=>b.Fit S:=by
 unfold dK;exact af (zQ hrec n) (fun b m hb=>Dp hrec n F b m hb)
theorem Dh (n:Nat):Ret (fE S F rec d n) fun b m=>b.Fit S:=by
 unfold fE;exact af (mJ F (BX hrec) n) (fun l m hl=>ah (rQ rfl hl))
theorem Tf (n:Nat):Ret (tyO S F rec d n) fun b m=>b.Fit S:=by
 unfold tyO;refine af (Dh hrec n) (fun b m hb=>ak (fun h=>?_) (fun _=>ah hb))
 exact af (hrec .ty (m+1) trivial) (fun c m2 hc=>ah (aJ (df rfl) ⟨hb,hc,trivial⟩))
omit hrec in
theorem IP {fr n:Nat} {member:Nat→Out Pb} (hm:∀ k,Ret (member k) fun b m=>b.Fit S):Ret (je S F fr member n) fun b m=>b.Fit S:=by
 unfold je;refine ak (fun h=>ah (aJ (df rfl) .nil)) (fun _=>?_)
 refine af (mJ F hm n) (fun l m hl=>?_)
 exact af (bU m) (fun _ m2 h2=>ah (rQ rfl hl))
omit hrec in
theorem xh {named:Int} (hn:named=28∨named=39) {member:Nat→Out Pb} (hm:∀ k,Ret (member k) fun b m=>b.Fit S) (n:Nat):Ret (plainO S F named member n) fun b m=>b.Fit S:=by
 unfold plainO;refine ak (fun h=>ah (aJ (df rfl) .nil)) (fun _=>ak (fun h=>ah (aJ (df rfl) .nil)) (fun _=>ak (fun h=>?_) (fun _=>?_)))
 ·exact IP hm
 ·refine af (wC n) (fun x m hx=>ah (aJ ?_ .nil))
  rcases hn with rfl | rfl
  ·exact oI (p:=[]) rfl rfl rfl rfl rfl rfl (fun y hy=>by cases hy) (lZ hx)
  ·exact fJ rfl (lZ hx)
theorem jl (n:Nat):Ret (bZ S F rec d n) fun b m=>b.Fit S:=by
 unfold bZ;refine ak (fun h=>ah (aJ (df rfl) .nil)) (fun _=>ak (fun _=>?_) (fun _=>xh (.inr rfl) (fun k=>hrec .pat k trivial) n))
 exact af (qV n) (fun p m hp=>ah (aJ (xM (.inr (.inr rfl)) hp) .nil))
theorem PX (n:Nat):Ret (qL S F rec d n) fun b m=>b.Fit S:=by
 unfold qL;refine ak (fun h=>?_) (fun _=>ak (fun _=>?_) (fun _=>jl hrec n))
 ·simp only [Bool.and_eq_true,beq_iff_eq] at h
  exact af (hrec .pat (n+2) trivial) (fun b m hb=>ah (aJ (fJ rfl (lZ (.inl h.1))) (.one hb)))
 ·refine af (qV n) (fun p m hp=>ak (fun _=>?_) (fun _=>ah (aJ (xM (.inr (.inr rfl)) hp) .nil)))
  exact af (jl hrec m) (fun b m2 hb=>ah (aJ (xM (.inr (.inr rfl)) hp) (.one hb)))
theorem NJ (a:Nat):∀ (f:Nat) (acc:List Pb) (n:Nat),gZ S acc→Ret (mf S rec d a f acc n) fun l m=>gZ S l:=by
 intro f
 induction f with
 | zero=>intro acc n _; exact bI
 | succ f ih =>
  intro acc n h;unfold mf;refine ak (fun hc=>ih _ _ h) (fun _=>ak (fun hd=>?_) (fun _=>ah h))
  exact af (hrec (.dec a) n hd) (fun b m hb=>ih _ _ (h.cat (.one hb)))
theorem uI (a n:Nat):Ret (iy S F rec d a n) fun l m=>gZ S l:=NJ hrec a F [] n .nil
theorem pX (a n:Nat):Ret (gz S F rec d a n) fun b m=>b.Fit S:=by
 unfold gz;exact af (uI hrec a n) (fun l m hl=>ah (aJ (df rfl) hl))
theorem CY (n:Nat):Ret (iZ S F rec d n) fun b m=>b.Fit S:=by
 unfold iZ;refine ak (fun _=>?_) (fun _=>ak (fun h=>?_) (fun _=>xh (.inl rfl) (fun k=>hrec .exp k trivial) n))
 ·refine af (yL n) (fun l m ⟨p,x,h1,h2,h3,h4⟩=>?_)
  have hm:m - 1=x:=by omega
  rw [hm];refine ak (fun hc=>ah (aJ (xM (.inr (.inr rfl)) ⟨p,x,h1,h3,by simpa using hc⟩) .nil)) (fun hc=>ah (aJ ?_ .nil))
  rw [h1];refine oI rfl rfl rfl rfl rfl rfl h3 (lZ (.inl ?_))
  have hc':S.kd x≠7:=by simpa using hc
  have h4':S.kd x=7∨S.kd x=6:=by simpa using h4
  exact h4'.resolve_left hc'
 ·refine af (pX hrec 0 (n+1)) (fun ds m hd=>?_)
  refine af (bU m) (fun _ m2 h2=>?_)
  refine af (hrec .exp m2 trivial) (fun e m3 he=>?_)
  exact af (bU m3) (fun _ m4 h4=>ah (aJ (df rfl) ⟨hd,he,trivial⟩))
theorem LU:∀ (f:Nat) (acc:List Pb) (n:Nat),gZ S acc→Ret (jJ S F rec d f acc n) fun l m=>gZ S l:=by
 intro f
 induction f with
 | zero=>intro acc n _; exact bI
 | succ f ih =>
  intro acc n h;unfold jJ;exact ak (fun _=>af (CY hrec n) (fun b m hb=>ih _ _ (h.cat (.one hb)))) (fun _=>ah h)
theorem CZ (n:Nat):Ret (lK S F rec d n) fun b m=>b.Fit S:=by
 unfold lK;refine af (CY hrec n) (fun b m hb=>?_)
 exact af (LU hrec F [b] m (.one hb)) (fun l m2 hl=>ah (rQ rfl hl))
theorem H7:∀ (f:Nat) (sg:List Nat) (acc:List Pb) (n:Nat),(acc.length=sg.length+1∧(∀ x ∈ sg,S.kd x=9)∧gZ S acc)→Ret (jG S F rec d f sg acc n) fun l m=>l.2.length=l.1.length+1∧(∀ x ∈ l.1,S.kd x=9)∧gZ S l.2:=by
 intro f
 induction f with
 | zero=>intro sg acc n _; exact bI
 | succ f ih =>
  intro sg acc n h;unfold jG;refine ak (fun _=>?_) (fun _=>ah h)
  refine af (fD n) (fun x m hx=>af (CZ hrec m) (fun b m2 hb=>ih _ _ _ ?_))
  obtain ⟨h1,h2,h3⟩:=h;refine ⟨by simp only [List.length_append,List.length_singleton]; omega,fun y hy=>?_,h3.cat (.one hb)⟩
  rcases List.mem_append.1 hy with hy | hy
  ·exact h2 y hy
  ·have:y=x:=by simpa using hy
   rw [this]; exact hx
theorem JJ (n:Nat):Ret (iK S F rec d n) fun b m=>b.Fit S:=by
 unfold iK;refine af (CZ hrec n) (fun b m hb=>?_)
 refine af (H7 hrec F [] [b] m ⟨rfl,fun x hx=>(by cases hx),.one hb⟩) (fun l m2 hl=>ah ?_)
 obtain ⟨sg,ks⟩:=l;obtain ⟨h1,h2,h3⟩:=hl;have h1:ks.length=sg.length+1:=h1;have h3:gZ S ks:=h3
 show (fB ks 37 n m2 sg).Fit S
 unfold fB
 split
 ·exact h3.1
 ·next hne =>
  refine aJ (JL (fun e=>?_) h2) h3
  subst e
  match ks,h1,hne with
  | [a],_,hne=>exact hne a rfl
theorem uw {k:Int} (hk:kQ k 0=true) {fr n:Nat} (hb:1≤k∧k≤44:=by decide):Ret (gy S rec d k fr n) fun b m=>b.Fit S:=by
 unfold gy;refine af (hrec .pat n trivial) (fun p m hp=>?_)
 refine af (bU m) (fun _ m2 h2=>?_)
 exact af (hrec .exp m2 trivial) (fun e m3 he=>ah (aJ (df hk hb) ⟨hp,he,trivial⟩))
theorem Qe (n:Nat):Ret (yU S rec d n) fun b m=>b.Fit S:=uw hrec rfl
theorem O5 (n:Nat):Ret (qE S F rec d n) fun b m=>b.Fit S:=by
 unfold qE;refine ak (fun h=>?_) (fun _=>ak (fun h=>?_) (fun _=>ak (fun h=>?_) (fun _=>JJ hrec n)))
 ·refine af (hrec .exp (n+1) trivial) (fun a m ha=>?_)
  refine af (bU m) (fun _ m2 h2=>?_)
  refine af (hrec .exp m2 trivial) (fun b m3 hb=>?_)
  refine af (bU m3) (fun _ m4 h4=>?_)
  exact af (hrec .exp m4 trivial) (fun c m5 hc=>ah (aJ (df rfl) ⟨ha,hb,hc,trivial⟩))
 ·refine af (hrec .exp (n+1) trivial) (fun a m ha=>?_)
  refine af (bU m) (fun _ m2 h2=>?_)
  exact af (mJ F (Qe hrec) m2) (fun l m3 hl=>ah (aJ (df rfl) ((gZ.one ha).cat hl)))
 ·exact uw hrec rfl
omit hrec in
theorem mV (n:Nat):Ret (cO S F n) fun x m=>S.kd x=6:=by
 unfold cO;refine ak (fun h=>fD (n+1)) (fun _=>ak (fun h=>?_) (fun _=>fD n))
 refine af (P:=fun _ _=>True) (fun _ _ _=>trivial) (fun _ m hm=>?_)
 refine af (P:=fun _ _=>True) (fun _ _ _=>trivial) (fun _ m2 h2=>?_)
 exact af (bU m2) (fun _ m3 h3=>fD m3)
theorem PP (n:Nat):Ret (o5 S rec d n) fun b m=>b.Fit S:=by
 unfold o5;refine af (fD n) (fun x m hx=>ak (fun h=>?_) (fun _=>ah (aJ (fJ rfl (by rw [hx]; rfl)) .nil)))
 exact af (hrec .ty (m+1) trivial) (fun b m2 hb=>ah (aJ (fJ rfl (by rw [hx]; rfl)) (.one hb)))
theorem IR (n:Nat):Ret (iC S F rec d n) fun b m=>b.Fit S:=by
 unfold iC;refine af (mV n) (fun x m hx=>?_)
 refine af (bU m) (fun _ m2 h2=>?_)
 exact af (mJ F (PP hrec) m2) (fun l m3 hl=>ah (aJ (fJ rfl (by rw [hx]; rfl)) hl))
theorem o8 {fr n:Nat}:Ret (dh S F rec d fr n) fun b m=>b.Fit S:=by
 unfold dh;exact af (mJ F (IR hrec) n) (fun l m hl=>ah (aJ (df rfl) hl))
theorem L6 (n:Nat):Ret (l7 S F rec d n) fun b m=>b.Fit S:=by
 unfold l7;refine ak (fun h=>?_) (fun _=>ak (fun h=>?_) (fun _=>ak (fun h=>?_) (fun _=>ak (fun h=>?_) (fun _=>?_))))
 ·refine af (wC (n+1)) (fun x m hx=>?_)
  refine af (bU m) (fun _ m2 h2=>?_)
  exact af (hrec .ty m2 trivial) (fun b m3 hb=>ah (aJ (fJ rfl (lZ hx)) (.one hb)))
 ·refine af (mV (n+1)) (fun x m hx=>ak (fun h2=>?_) (fun _=>ah (aJ (fJ rfl (by rw [hx]; rfl)) .nil)))
  exact af (hrec .ty (m+1) trivial) (fun b m3 hb=>ah (aJ (fJ rfl (by rw [hx]; rfl)) (.one hb)))
 ·exact o8 hrec
 ·refine af (fD (n+1)) (fun x m hx=>?_)
  refine af (bU m) (fun _ m2 h2=>?_)
  exact af (hrec .sig m2 trivial) (fun b m3 hb=>ah (aJ (fJ rfl (by rw [hx]; rfl)) (.one hb)))
 ·refine af (bU n) (fun _ m2 h2=>?_)
  exact af (hrec .sig m2 trivial) (fun b m3 hb=>ah (aJ (df rfl) (.one hb)))
theorem IY:∀ (f:Nat) (acc:List Pb) (n:Nat),gZ S acc→Ret (jf S F rec d f acc n) fun l m=>gZ S l:=by
 intro f
 induction f with
 | zero=>intro acc n _; exact bI
 | succ f ih =>
  intro acc n h;unfold jf;refine ak (fun hc=>ah h) (fun _=>ak (fun hc=>ih _ _ h) (fun _=>?_))
  exact af (L6 hrec n) (fun b m hb=>ih _ _ (h.cat (.one hb)))
theorem AQ (n:Nat):Ret (fC S F rec d n) fun b m=>b.Fit S:=by
 unfold fC;refine ak (fun h=>?_) (fun _=>af (fD n) (fun x m hx=>ah (aJ (fJ rfl (by rw [hx]; rfl)) .nil)))
 exact af (IY hrec F [] (n+1) .nil) (fun l m hl=>ah (aJ (df rfl) hl))
theorem Jc (p:Nat):∀ (f:Nat) (b:Pb) (n:Nat),b.Fit S→Ret (jE S rec d p f b n) fun b m=>b.Fit S:=by
 intro f
 induction f with
 | zero=>intro b n _; exact bI
 | succ f ih =>
  intro b n h;unfold jE;refine ak (fun hc=>?_) (fun _=>ah h)
  refine af (bU (n+1)) (fun _ m h1=>?_)
  refine af (lC m) (fun p m2 hp=>?_)
  refine af (bU m2) (fun _ m3 h3=>?_)
  exact af (hrec .ty m3 trivial) (fun c m4 hb=>ih _ _ (aJ (IC hp) ⟨h,hb,trivial⟩))
theorem Qk (n:Nat):Ret (qQ S F rec d n) fun b m=>b.Fit S:=by
 unfold qQ;exact af (AQ hrec n) (fun b m hb=>Jc hrec n F b m hb)
theorem AP (n:Nat):Ret (fF S F rec d n) fun b m=>b.Fit S:=by
 unfold fF;refine ak (fun h=>?_) (fun _=>ak (fun h=>?_) (fun _=>af (qV n) (fun p m hp=>ah (aJ (xM (.inr (.inl rfl)) hp) .nil))))
 ·refine af (uI hrec 1 (n+1)) (fun l m hl=>?_)
  exact af (bU m) (fun _ m2 h2=>ah (aJ (df rfl) hl))
 ·simp only [Bool.and_eq_true,beq_iff_eq] at h
  refine af (hrec .str (n+2) trivial) (fun b m hb=>?_)
  exact af (bU m) (fun _ m2 h2=>ah (aJ (fJ rfl (by rw [h.1]; rfl)) (.one hb)))
theorem MR (p:Nat):∀ (f:Nat) (b:Pb) (n:Nat),b.Fit S→Ret (nH S rec d p f b n) fun b m=>b.Fit S:=by
 intro f
 induction f with
 | zero=>intro b n _; exact bI
 | succ f ih =>
  intro b n h;unfold nH;refine ak (fun _=>ah h) (fun hc=>?_)
  exact af (hrec .sig (n+1) trivial) (fun s m hs=>ih _ _ (pV (aJ (df rfl) ⟨h,hs,trivial⟩)))
theorem Qm (n:Nat):Ret (qN S F rec d n) fun b m=>b.Fit S:=by
 unfold qN;exact af (AP hrec n) (fun b m hb=>MR hrec n F b m hb)
theorem C9 (n:Nat):Ret (lu S rec d n) fun l m=>gZ S l.2:=by
 unfold lu;refine af (P:=fun l m=>gZ S l) (ak (fun _=>ah .nil) (fun hc=>?_)) (fun l m hl=>?_)
 ·exact af (hrec .sig (n+1) trivial) (fun s m hs=>ah (.one hs))
 ·refine af (bU m) (fun _ m2 h2=>?_)
  exact af (hrec .str m2 trivial) (fun b m3 hb=>ah (hl.cat (.one hb)))
theorem wW {fr n:Nat}:Ret (dN S rec d fr n) fun b m=>b.Fit S:=by
 unfold dN;refine af (fD n) (fun x m hx=>?_)
 exact af (C9 hrec m) (fun l m2 hl=>ah (pV (aJ (fJ rfl (by rw [hx]; rfl)) hl)))
theorem Be {fr n:Nat}:Ret (fG S rec d fr n) fun b m=>b.Fit S:=by
 unfold fG;refine af (fD n) (fun x m hx=>?_)
 refine af (bU m) (fun _ m2 h2=>?_)
 refine af (fD m2) (fun y m3 hy=>?_)
 refine af (bU m3) (fun _ m4 h4=>?_)
 refine af (hrec .sig m4 trivial) (fun g m5 hg=>?_)
 refine af (bU m5) (fun _ m6 h6=>?_)
 refine af (C9 hrec m6) (fun l m7 hl=>ah (pV (aJ ⟨by decide,rfl,fun i hi=>?_⟩ ((gZ.one hg).cat hl))))
 have hi':i < 2:=by simpa using hi
 match i,hi' with
 | 0,_=>show okK 6 (S.kd x)=true; rw [hx]; rfl
 | 1,_=>show okK 4 (S.kd y)=true; rw [hy]; rfl
theorem Py:∀ (f:Nat) (acc:List Pb) (n:Nat),gZ S acc→Ret (tC S F rec d f acc n) fun l m=>gZ S l:=by
 intro f
 induction f with
 | zero=>intro acc n _; exact bI
 | succ f ih =>
  intro acc n h;unfold tC;exact ak (fun _=>af (jl hrec n) (fun b m hb=>ih _ _ (h.cat (.one hb)))) (fun _=>ah h)
theorem zx (n:Nat):Ret (dM S F rec d n) fun b m=>b.Fit S:=by
 unfold dM;refine af (wC n) (fun x m hx=>?_)
 refine af (jl hrec m) (fun b m2 hb=>?_)
 refine af (Py hrec F [b] m2 (.one hb)) (fun l m3 hl=>?_)
 refine af (bU m3) (fun _ m4 h4=>?_)
 exact af (hrec .exp m4 trivial) (fun e m5 he=>ah (aJ (fJ rfl (lZ hx)) (hl.cat (.one he))))
theorem Ir {fr n:Nat} (a:Nat):Ret (jg S F rec d fr a n) fun b m=>b.Fit S:=by
 unfold jg;refine af (pX hrec a n) (fun x m hx=>?_)
 refine af (bU m) (fun _ m2 h2=>?_)
 refine af (pX hrec a m2) (fun y m3 hy=>?_)
 exact af (bU m3) (fun _ m4 h4=>ah (aJ (df rfl) ⟨hx,hy,trivial⟩))
theorem Po (a n:Nat):Ret (qG S F rec d a n) fun b m=>b.Fit S:=by
 unfold qG;refine ak (fun h=>?_) (fun q1=>ak (fun h=>?_) (fun q2=>ak (fun h=>?_) (fun q3=>ak (fun h=>?_) (fun q4=>ak (fun h=>?_) (fun q5=>ak (fun h=>?_) (fun q6=>ak (fun h=>?_) (fun q7=>ak (fun h=>?_) (fun q8=>?_))))))))
 ·refine af (hrec .pat (n+1) trivial) (fun p m hp=>?_)
  refine af (bU m) (fun _ m2 h2=>?_)
  exact af (hrec .exp m2 trivial) (fun e m3 he=>ah (aJ (df rfl) ⟨hp,he,trivial⟩))
 ·exact af (mJ F (zx hrec) (n+1)) (fun l m hl=>ah (aJ (df rfl) hl))
 ·refine af (mV (n+1)) (fun x m hx=>?_)
  refine af (bU m) (fun _ m2 h2=>?_)
  exact af (hrec .ty m2 trivial) (fun b m3 hb=>ah (aJ (fJ rfl (by rw [hx]; rfl)) (.one hb)))
 ·exact o8 hrec
 ·exact wW hrec
 ·refine af (fD (n+1)) (fun x m hx=>?_)
  refine af (bU m) (fun _ m2 h2=>?_)
  exact af (hrec .sig m2 trivial) (fun b m3 hb=>ah (aJ (fJ rfl (by rw [hx]; rfl)) (.one hb)))
 ·exact Be hrec
 ·exact af (qV (n+1)) (fun p m hp=>ah (aJ (xM (.inl rfl) hp) .nil))
 ·exact Ir hrec a
end
theorem LM:∀ (f:Nat) (nt:Nt) (d n:Nat),S.may nt n→Ret (parts S f nt d n) fun b m=>b.Fit S:=by
 intro f
 induction f with
 | zero=>intro nt d n _; exact bI
 | succ f ih =>
  intro nt d n hm;unfold parts;refine ak (fun _=>ve) (fun _=>?_)
  have hrec:∀ nt k,S.may nt k→Ret (parts S f nt (d+1) k) fun b m=>b.Fit S:=fun nt k hk=>ih nt (d+1) k hk
  cases nt with
  | exp=>exact O5 hrec n
  | pat=>exact PX hrec n
  | ty=>exact Tf hrec n
  | sig=>exact Qk hrec n
  | str=>exact Qm hrec n
  | dec a=>exact Po hrec a n
theorem MG (F:Nat):Ret (jq S F 0) fun b m=>b.Fit S:=by
 unfold jq;exact af (uI (F:=F) (rec:=parts S F) (d:=0) (fun nt k hk=>LM F nt 0 k hk) 2 0) (fun l m hl=>ah (aJ (df rfl) hl))
end
structure BA where
 y:Br
 b:Nat
 o:Nat
abbrev BA.ad (e:BA):Addr:=⟨e.b,e.o,none⟩
def bD (b:Nat):Nat→List Br→List BA
 | _,[]=>[]
 | o,k :: r=>⟨k,b,o⟩ :: bD b (o+6) r
theorem kC (b:Nat) (l:List Br):∀ o,(bD b o l).map BA.y=l:=by
 induction l with
 | nil=>intro o; rfl
 | cons x r ih=>intro o; simp only [bD,List.map_cons,ih]
theorem iY (b:Nat) (l:List Br):∀ o i:Nat,(bD b o l)[i]?=l[i]?.map fun k=>(⟨k,b,o+i * 6⟩:BA):=by
 induction l with
 | nil=>intro o i; simp [bD]
 | cons x r ih =>
  intro o i
  cases i with
  | zero=>simp [bD]
  | succ i =>
   simp only [bD,List.getElem?_cons_succ,ih];rw [show o+6+i * 6=o+(i+1) * 6 by omega]
def BA.kids (e:BA):List BA:=match e.y.h.kp with
 | some a=>bD a.block a.off e.y.ks
 | none=>[]
structure BA.Good (e:BA) (w:World):Prop where
 at_:bP w e.b e.o e.y.h
 lies:e.y.Lies w
 lt:e.b < w.heap.size
theorem wE (e:BA) (w:World) (h:e.Good w):e.kids.map BA.y=e.y.ks:=by
 obtain ⟨_,hk,_⟩:=(aO _ _).1 h.lies;unfold BA.kids;obtain ⟨hn,h0 | ⟨b,off,hp,_⟩⟩:=hk
 ·have:e.y.ks=[]:=List.length_eq_zero_iff.1 (by omega)
  rw [this]
  cases e.y.h.kp <;> simp [bD]
 ·rw [hp]
  exact kC _ _ _
theorem qX (e:BA) (w:World) (h:e.Good w):e.kids.length=e.y.ks.length:=by
 rw [← wE e w h,List.length_map]
theorem GM (e:BA) (w:World) (h:e.Good w):e.kids.length=0∨∃ b off,e.y.h.kp=some ⟨b,off,none⟩∧e.kids.length≤e.y.h.kc∧∀ i e',e.kids[i]?=some e'→BA.ad e'=⟨b,off+i * 6,none⟩:=by
 obtain ⟨_,hk,_⟩:=(aO _ _).1 h.lies;have hl:=qX e w h;obtain ⟨hn,h0 | ⟨b,off,hp,hc,_⟩⟩:=hk
 ·left; omega
 ·right
  refine ⟨b,off,hp,by omega,fun i e' he=>?_⟩
  unfold BA.kids at he;rw [hp] at he;simp only [iY,Option.map_eq_some_iff] at he;obtain ⟨k,_,rfl⟩:=he
  rfl
theorem xE (e:BA) (w:World) (h:e.Good w):∀ x ∈ e.kids,x.Good w:=by
 intro x hx;obtain ⟨_,hk,hall⟩:=(aO _ _).1 h.lies;obtain ⟨hn,h0 | ⟨b,off,hp,hc,hb,hat⟩⟩:=hk
 ·have hl:=qX e w h
  have:e.kids=[]:=List.length_eq_zero_iff.1 (by omega)
  rw [this] at hx; cases hx
 ·obtain ⟨i,hi,hxi⟩:=List.mem_iff_getElem.1 hx
  have hg:=List.getElem?_eq_getElem hi;rw [hxi] at hg;unfold BA.kids at hg;rw [hp] at hg;simp only [iY,Option.map_eq_some_iff] at hg;obtain ⟨k,hk2,rfl⟩:=hg;obtain ⟨hi',rfl⟩:=List.getElem?_eq_some_iff.1 hk2;exact ⟨hat i hi',hall _ (List.getElem_mem hi'),hb⟩
theorem BA.Good.step {e:BA} {w w':World} (h:e.Good w) (hb:Below w.heap.size w w'):e.Good w':=⟨h.at_.step h.lt hb,h.lies.step _ hb,Nat.lt_of_lt_of_le h.lt hb.size⟩
theorem cZ (y:Br):y.flatB=y :: aB y.ks:=by cases y; simp only [Br.flatB,Br.ks]
def szB (e:BA):Nat:=e.y.flatB.length
theorem rM (l:List BA):szs szB l=(aB (l.map BA.y)).length:=by
 induction l with
 | nil=>rfl
 | cons x r ih=>simp only [szs,List.map_cons,aB,List.length_append,ih,szB]
theorem WJ (args:Array Value) (w:World):Sem.run Tryz.prog (callFunc 126 args) w=.ok (.enter 126 args) w:=aV Tryz.func126 (by kernel_rfl) (by kernel_rfl) args w
theorem vk (e0:BA) (w0 wS:World) (hg0:e0.Good w0) (hsz:e0.y.flatB.length≤10000000) (fw:Nat) (cw:Array Value) (hcw:∀ args w,Sem.run Tryz.prog (callFunc fw args) w=.ok (.enter fw args) w)
  (A:List Br→Nat→World→Prop)
  (stab:∀ l g w w' g',A l g w→w.grownBy w' (some g)→(g'=g∨w.heap.size≤g')→A l g' w')
  (low:∀ l g w,A l g w→Below w0.heap.size w0 w)
  (HW:∀ l (e:BA) r g w,A l g w→g < w.heap.size→e.Good w0→l++e.y :: r=e0.y.flatB→Calls Tryz.prog fw (#[.pointer (some e.ad)]++cw) w fun x w'=>x=.returned (.bool true)∧A (l++[e.y]) g w'∧w.heap.size≤w'.heap.size∧w'.heap[g]?=w.heap[g]?)
  (h0:∀ w',Below wS.heap.size wS w'→A [] wS.heap.size w') :
  Calls Tryz.prog 125 #[.pointer (some e0.ad),.func (.func 126) #[] #[],.func (.func fw) #[] cw] wS fun x w'=>x=.returned (.bool true)∧∃ g,A e0.y.flatB g w':=by
 have szK:∀ e:BA,szs szB e.kids+1≤szB e:=fun e=>by
  rw [rM,szB,cZ,List.length_cons]
  have:(aB (e.kids.map BA.y)).length≤(aB e.y.ks).length:=by
   unfold BA.kids
   cases e.y.h.kp with
   | none=>simp [aB]
   | some a =>
    simp only
    rw [kC];exact Nat.le_refl _
  omega
 refine (Jh BA.ad szB (fun e=>ig e.y)
  (fun st g w=>∃ l,A l g w∧l++aB (st.map BA.y)=e0.y.flatB∧∀ e ∈ st,e.Good w0)
  (fun e st g w=>∃ l,A (l++[e.y]) g w∧l++e.y :: (aB e.y.ks++aB (st.map BA.y))=e0.y.flatB∧e.Good w0∧∀ e ∈ st,e.Good w0)
  (fun st g w w' g' ⟨l,h1,h2,h3⟩ h4 h5=>⟨l,stab _ _ _ _ _ h1 h4 h5,h2,h3⟩)
  126 fw #[] cw WJ hcw ?_ ?_ e0 wS hsz (fun w' hb=>⟨[],h0 w' hb,by simp [aB],fun e he=>by rw [List.mem_singleton.1 he]; exact hg0⟩)).mono ?_
 ·rintro e st g w ⟨l,h1,h2,h3⟩ hgl
  have he:=h3 e (by simp);have hx:l++e.y :: (aB e.y.ks++aB (st.map BA.y))=e0.y.flatB:=by
   rw [← h2,List.map_cons,aB,cZ]; simp
  refine (HW l e _ g w h1 hgl he hx).mono ?_
  rintro x w' ⟨rfl,h4,h5,h6⟩;exact ⟨rfl,⟨l,h4,hx,he,fun z hz=>h3 z (by simp [hz])⟩,h5,h6⟩
 ·rintro e st g w ⟨l,h1,h2,h3,h4⟩ hgl
  have he:=h3.step (low _ _ _ h1);refine (uz e.b e.o e.y.h w he.at_).mono ?_
  rintro x w' ⟨rfl,rfl⟩;have hkl:=qX e w0 h3;have hkn:e.y.h.kn=e.kids.length:=by
   have:=((aO _ _).1 h3.lies).2.1.1
   omega
  refine ⟨e.y.h.kp,e.y.h.kc,e.kids,by rw [hkn],szK e,GM e w0 h3,⟨l++[e.y],h1,?_,?_⟩,Nat.le_refl _,rfl⟩
  ·rw [List.map_append,iE,wE e w0 h3,← h2]; simp
  ·intro z hz
   rcases List.mem_append.1 hz with hz | hz
   ·exact xE e w0 h3 z hz
   ·exact h4 z hz
 ·rintro x w' ⟨rfl,g,l,h1,h2,_⟩
  simp only [List.map_nil,aB,List.append_nil] at h2;exact ⟨rfl,g,by rw [← h2]; exact h1⟩
end Go.Proofs.YtmpmfamiegpmgaaGreatDoor
namespace Go.Proofs
open Go.Shelf
def Tryz.lays189_ren:Go.Shelf.Ren:=⟨fun | 189=>67 | 125=>104 | 257=>103 | 128=>150 | 129=>151 | 294=>141 | 295=>142 | 296=>143 | 297=>144 | 298=>145 | 299=>146 | 216=>147 | 300=>148 | 301=>149 | 328=>193 | 329=>194 | 330=>195 | 331=>196 | 332=>197 | 215=>198 | 343=>253 | n=>n,fun | 28=>23 | 3=>3 | 46=>175 | 0=>0 | 51=>224 | 53=>226 | 4=>4 | 183=>218 | 182=>217 | 131=>71 | 5=>5 | 9=>9 | 218=>243 | 222=>247 | 228=>268 | 229=>155 | n=>n,fun | n=>n⟩
theorem Tryz.lays189:Go.Proofs.Lays.n189 Tryz.prog Tryz.lays189_ren:={
 mixed:=by kernel_rfl
 f125:=Tryz.func104.trans (congrArg some (by kernel_rfl))
 f128:=Tryz.func150.trans (congrArg some (by kernel_rfl))
 f129:=Tryz.func151.trans (congrArg some (by kernel_rfl))
 f189:=Tryz.func67.trans (congrArg some (by kernel_rfl))
 f215:=Tryz.func198.trans (congrArg some (by kernel_rfl))
 f216:=Tryz.func147.trans (congrArg some (by kernel_rfl))
 f257:=Tryz.func103.trans (congrArg some (by kernel_rfl))
 f294:=Tryz.func141.trans (congrArg some (by kernel_rfl))
 f295:=Tryz.func142.trans (congrArg some (by kernel_rfl))
 f296:=Tryz.func143.trans (congrArg some (by kernel_rfl))
 f297:=Tryz.func144.trans (congrArg some (by kernel_rfl))
 f298:=Tryz.func145.trans (congrArg some (by kernel_rfl))
 f299:=Tryz.func146.trans (congrArg some (by kernel_rfl))
 f300:=Tryz.func148.trans (congrArg some (by kernel_rfl))
 f301:=Tryz.func149.trans (congrArg some (by kernel_rfl))
 f328:=Tryz.func193.trans (congrArg some (by kernel_rfl))
 f329:=Tryz.func194.trans (congrArg some (by kernel_rfl))
 f330:=Tryz.func195.trans (congrArg some (by kernel_rfl))
 f331:=Tryz.func196.trans (congrArg some (by kernel_rfl))
 f332:=Tryz.func197.trans (congrArg some (by kernel_rfl))
 f343:=Tryz.func253.trans (congrArg some (by kernel_rfl))
 t0:=Tryz.underlying0
 a0:=Tryz.isAgg0
 z0:=Tryz.sizeOf0
 v0:=Tryz.zeroValue0
 t3:=Tryz.underlying3
 a3:=Tryz.isAgg3
 z3:=Tryz.sizeOf3
 v3:=Tryz.zeroValue3
 t4:=Tryz.underlying4
 a4:=Tryz.isAgg4
 z4:=Tryz.sizeOf4
 v4:=Tryz.zeroValue4
 t5:=Tryz.underlying5
 a5:=Tryz.isAgg5
 z5:=Tryz.sizeOf5
 v5:=Tryz.zeroValue5
 t9:=Tryz.underlying9
 a9:=Tryz.isAgg9
 z9:=Tryz.sizeOf9
 v9:=Tryz.zeroValue9
 t28:=Tryz.underlying23
 a28:=Tryz.isAgg23
 z28:=Tryz.sizeOf23
 v28:=Tryz.zeroValue23
 t46:=Tryz.underlying175
 a46:=Tryz.isAgg175
 z46:=Tryz.sizeOf175
 v46:=Tryz.zeroValue175
 t51:=Tryz.underlying224
 a51:=Tryz.isAgg224
 z51:=Tryz.sizeOf224
 v51:=Tryz.zeroValue224
 t53:=Tryz.underlying226
 a53:=Tryz.isAgg226
 z53:=Tryz.sizeOf226
 v53:=Tryz.zeroValue226
 t131:=Tryz.underlying71
 a131:=Tryz.isAgg71
 z131:=Tryz.sizeOf71
 v131:=Tryz.zeroValue71
 t182:=Tryz.underlying217
 a182:=Tryz.isAgg217
 z182:=Tryz.sizeOf217
 v182:=Tryz.zeroValue217
 t183:=Tryz.underlying218
 a183:=Tryz.isAgg218
 z183:=Tryz.sizeOf218
 v183:=Tryz.zeroValue218
 t218:=Tryz.underlying243
 a218:=Tryz.isAgg243
 z218:=Tryz.sizeOf243
 v218:=Tryz.zeroValue243
 t222:=Tryz.underlying247
 a222:=Tryz.isAgg247
 z222:=Tryz.sizeOf247
 v222:=Tryz.zeroValue247
 t228:=Tryz.underlying268
 a228:=Tryz.isAgg268
 z228:=Tryz.sizeOf268
 v228:=Tryz.zeroValue268
 t229:=Tryz.underlying155
 a229:=Tryz.isAgg155
 z229:=Tryz.sizeOf155
 v229:=Tryz.zeroValue155 }
open Go.Sort Go.RowKit in
theorem Tryz.slices_Sort_int (blk off cap:Nat) (zs:List Int) (w:World) (hH:Holds (Value.int .i64) w blk off zs.toArray) (hblk:blk < w.heap.size) (hsz:zs.length < 4611686018427387904) :
  Calls Tryz.prog 67 #[.slice (some ⟨blk,off,none⟩) zs.length cap] w fun e w' =>
   e=.returned (.tuple #[])∧∃ n os,w'=grow (putRow (Value.int .i64) (Sort.ahead w n) blk off (zs.mergeSort fun x y=>decide (x≤y)).toArray) os:=Any.slices_Sort_int Tryz.lays189 blk off cap zs w hH hblk hsz
end Go.Proofs
namespace Go.Proofs
def Tryz.laysNm220_ren:Go.Shelf.Ren:=⟨fun | 20=>68 | n=>n,fun | 22=>23 | 3=>3 | 4=>4 | 0=>0 | n=>n,fun | n=>n⟩
theorem Tryz.laysNm220:Go.Proofs.Lays2.n20 Tryz.prog Tryz.laysNm220_ren:={
 mixed:=by kernel_rfl
 f20:=Tryz.func68.trans (congrArg some (by kernel_rfl))
 t0:=Tryz.underlying0
 a0:=Tryz.isAgg0
 z0:=Tryz.sizeOf0
 v0:=Tryz.zeroValue0
 t3:=Tryz.underlying3
 a3:=Tryz.isAgg3
 z3:=Tryz.sizeOf3
 v3:=Tryz.zeroValue3
 t4:=Tryz.underlying4
 a4:=Tryz.isAgg4
 z4:=Tryz.sizeOf4
 v4:=Tryz.zeroValue4
 t22:=Tryz.underlying23
 a22:=Tryz.isAgg23
 z22:=Tryz.sizeOf23
 v22:=Tryz.zeroValue23
 i3:=by kernel_rfl }
open Go.RowKit Go.Lib Go.Sort in
theorem Tryz.slices_Compact_int (blk off cap:Nat) (zs:List Int) (w:World) (hH:Holds (Value.int .i64) w blk off zs.toArray) (hsz:zs.length≤9223372036854775807) (hcap:zs.length≤cap) :
  Calls Tryz.prog 68 #[.slice (some ⟨blk,off,none⟩) zs.length cap] w fun e w'=>e=.returned (.slice (some ⟨blk,off,none⟩) (Lib.compact zs).length cap)∧∃ q,w'=putRow (Value.int .i64) (Sort.ahead w q) blk off (Lib.compact zs++List.replicate (zs.length - (Lib.compact zs).length) 0).toArray:=Any.slices_Compact_int Tryz.laysNm220 blk off cap zs w hH hsz hcap
open Go.RowKit Go.Lib Go.Sort in
theorem Tryz.slices_Compact_int_empty (a:Option Addr) (cap:Nat) (w:World) :
  Calls Tryz.prog 68 #[.slice a 0 cap] w fun e w'=>e=.returned (.slice a 0 cap)∧w'=w:=Any.slices_Compact_int_empty Tryz.laysNm220 a cap w
end Go.Proofs
