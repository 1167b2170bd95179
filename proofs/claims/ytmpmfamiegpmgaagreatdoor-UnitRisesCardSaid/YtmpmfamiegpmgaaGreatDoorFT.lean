/-
  A branch's parts in order; how few they are; what is known of a file that is read.; Of which space the names of a part are: how many it may have, and which tokens they may be.; The plain parser's branches have as many names as their kinds may have, and each name is a word, a cap or a sign as its space asks.; A walk over a branch's parts, each ahead of its kids: for any function that takes them one by one.; Contracts of the library, laid.; Contracts of the library, laid.
-/
import Derived.Test.YtmpmfamiegpmgaaGreatDoorFK
import Derived.Test.YtmpmfamiegpmgaaGreatDoorFS
import Derived.Test.YtmpmfamiegpmgaaGreatDoorFF
import Derived.Shelf.Sort.Plain
import Derived.Ground.Names2Prog
import Derived.Ground.SlgnProg
import Derived.Test.YtmpmfamiegpmgaaGreatDoorProg
import Derived.Shelf.Slices.CompactI
namespace Go.Proofs.YtmpmfamiegpmgaaGreatDoor
open Go.RowKit
set_option maxRecDepth 20000
set_option linter.unusedVariables false
set_option linter.unusedSimpArgs false

mutual
/-- A branch's rows are short, and those of its parts. -/
def Br.Few:Br→Prop
 | .mk h ks=>h.ns.length≤1000000∧ks.length≤1000000∧FewAll ks
def FewAll:List Br→Prop
 | []=>True
 | b :: r=>b.Few∧FewAll r
end
theorem fewAll_iff (ks:List Br):FewAll ks ↔ ∀ b ∈ ks,b.Few:=by
 induction ks with
 | nil=>simp [FewAll]
 | cons x r ih=>simp [FewAll,ih]
theorem wtL_mem {l:List Pb} {b:Pb} (h:b ∈ l):b.wt≤wtL l:=by
 induction l with
 | nil=>cases h
 | cons x r ih =>
  simp only [wtL]
  rcases List.mem_cons.1 h with rfl | h
  ·omega
  ·have:=ih h; omega
theorem wt_pos (b:Pb):1≤b.wt:=by cases b; simp only [Pb.wt]; omega
theorem wtL_len (l:List Pb):l.length≤wtL l:=by
 induction l with
 | nil=>simp
 | cons x r ih=>have:=wt_pos x; simp only [wtL,List.length_cons]; omega
theorem few_of_wt (y:Br):y.pb.wt≤1000000→y.Few:=by
 induction y using Br.ind with
 | hP h ks ih =>
  intro hw
  simp only [Br.pb,Pb.wt,pbs_map] at hw
  have h1:=wtL_len (ks.map Br.pb)
  rw [List.length_map] at h1
  simp only [Br.Few,fewAll_iff]
  refine ⟨by omega,by omega,fun b hb=>ih b hb ?_⟩
  have:=wtL_mem (List.mem_map.2 ⟨b,hb,rfl⟩:b.pb ∈ ks.map Br.pb)
  omega
theorem BrAt.box {w:World} {b:Nat} {h:Hd} (hat:BrAt w b 0 h):w.cell? ⟨b,0,none⟩=some (.int .i64 h.k)∧w.cell? ⟨b,1,none⟩=some (.int .i64 h.m)∧w.cell? ⟨b,2,none⟩=some (.int .i64 h.f) ∧
  w.cell? ⟨b,3,none⟩=some (.int .i64 h.t)∧w.cell? ⟨b,4,none⟩=some (.slice h.np h.nn h.nc)∧w.cell? ⟨b,5,none⟩=some (.slice h.kp h.kn h.kc):=by
 simpa [BrAt] using hat
abbrev Hd.obj (h:Hd):Obj:=.cells #[.int .i64 h.k,.int .i64 h.m,.int .i64 h.f,.int .i64 h.t,.slice h.np h.nn h.nc,.slice h.kp h.kn h.kc] 96
mutual
/-- All parts, in order. -/
def Br.flatB:Br→List Br
 | .mk h ks=>.mk h ks :: flatsB ks
def flatsB:List Br→List Br
 | []=>[]
 | b :: r=>b.flatB++flatsB r
end
theorem flatsB_append (a b:List Br):flatsB (a++b)=flatsB a++flatsB b:=by
 induction a with
 | nil=>rfl
 | cons x r ih=>simp [flatsB,ih]
theorem flatB_pos (b:Br):1≤b.flatB.length:=by cases b; simp [Br.flatB]
theorem flatsB_take {ks:List Br} {k:Nat} (h:k < ks.length):flatsB (ks.take (k+1))=flatsB (ks.take k)++ks[k].flatB:=by
 rw [List.take_succ_eq_append_getElem h,flatsB_append]; simp [flatsB]
theorem flatsB_le (ks:List Br) (k:Nat):(flatsB (ks.take k)).length≤(flatsB ks).length:=by
 conv=>rhs; rw [← List.take_append_drop k ks,flatsB_append,List.length_append]
 omega
theorem flatsB_len (ks:List Br):ks.length≤(flatsB ks).length:=by
 induction ks with
 | nil=>simp
 | cons x r ih=>have:=flatB_pos x; simp only [flatsB,List.length_append,List.length_cons]; omega
def nmK (k:Int):Bool:=k == 6 || k == 7 || k == 9
/-- What is known of a file that is read. -/
structure RtFile (s:ByteArray) (x:Pb) (n:Nat):Prop where
 rt:x.Rt
 fr:x.fr=0
 to:x.to=(n:Int)
 len:n+1=(wordsT s).length
 wt:x.wt≤3 * n+1
 one:∀ y,x.cnt y≤1
 inn:∀ y,0 < x.cnt y→0≤y∧y < (n:Int)
 nm:∀ (y:Nat) (h:y < (wordsT s).length),0 < x.cnt (y:Int)→nmK (wordsT s)[y].k=true
 all:∀ (y:Nat) (h:y < (wordsT s).length),x.cnt (y:Int)=0→nmK (wordsT s)[y].k=true→s.extract (wordsT s)[y].a (wordsT s)[y].e=⟨#[42]⟩
theorem rt_file {S:Src} (g:S.Good) (T:S.ts=wordsT S.s) {x:Pb} {n:Nat} (h:wholeO S (fileS S)=.ok x n):RtFile S.s x n:=by
 have hf:=fileO_fin g (F:=fuel S) (Nat.le_refl _) (pos_of S T)
 unfold wholeO fileS at h
 cases hx:fileO S (fuel S) 0 with
 | ok y k =>
  rw [hx] at h hf
  have hk:k < S.ts.length:=hf.2
  simp only [Out.bind] at h
  cases hz:(S.kd k == 0)
  ·rw [hz] at h; cases h
  ·rw [hz] at h
   simp only [cond_true] at h
   injection h with e1 e2
   subst e1 e2
   have hend:=(g.fin k hk).1 (by rw [← S.kd_at hk]; exact beq_iff_eq.1 hz)
   have q:=fileO_rt T (fuel S) y k hx
   have hft:y.fr=0∧y.to=(k:Int):=by
    unfold fileO at hx
    cases hd:decsO S (fuel S) (parts S (fuel S)) 0 2 0 with
    | ok l m =>
     rw [hd] at hx
     simp only [Out.bind] at hx
     injection hx with e1 e2
     subst e1 e2
     exact ⟨rfl,rfl⟩
    | form m=>rw [hd] at hx; cases hx
    | deep m=>rw [hd] at hx; cases hx
    | dry=>rw [hd] at hx; cases hx
   have hnm:∀ (z:Nat) (hz:z < S.ts.length),S.nm z=nmK S.ts[z].k:=fun z hz=>by
    unfold Src.nm nmK; rw [S.kd_at hz]
   refine ⟨q.rt,hft.1,hft.2,by rw [← T]; exact hend,fileO_wt (fuel S) y k hx,q.cov.one,fun z hz=>by have:=q.cov.inn z hz; omega,fun z hz hc=>?_,fun z hz hc hn=>?_⟩
   ·have:=q.cov.nm z hc
    rw [hnm z (by rw [T]; exact hz)] at this
    simpa only [T] using this
   ·have hz2:z < S.ts.length:=by rw [T]; exact hz
    have h1:nmK S.ts[z].k=true:=by simpa only [T] using hn
    have hlt:z < k:=by
     rcases Nat.lt_or_ge z k with h | h
     ·exact h
     ·have e:z=k:=by omega
      subst e
      have:=(g.fin z hz2).2 hend
      rw [this] at h1; exact absurd h1 (by decide)
    rcases hs:S.is z [42] with _ | _
    ·have:=q.cov.all z (by omega) hlt (by rw [hnm z hz2]; exact h1) hs
     exact absurd hc (Nat.ne_of_gt this)
    ·have h2:S.s.extract (wordsT S.s)[z].a (wordsT S.s)[z].e=S.tx z:=by rw [S.tx_at hz2]; simp only [T]
     rw [h2]
     apply bytes_ext
     simpa [Src.is] using hs
 | form k=>rw [hx] at h; cases h
 | deep k=>rw [hx] at h; cases h
 | dry=>rw [hx] at h; cases h

/-- How often a name is in a list of branches, their parts aside. -/
def nsum (x:Int):List Br→Nat
 | []=>0
 | b :: r=>b.h.ns.count x+nsum x r
theorem nsum_append (x:Int) (a b:List Br):nsum x (a++b)=nsum x a+nsum x b:=by
 induction a with
 | nil=>simp [nsum]
 | cons y r ih=>simp only [List.cons_append,nsum,ih]; omega
theorem nsum_flat (x:Int) (b:Br):nsum x b.flatB=b.pb.cnt x:=by
 induction b using Br.ind with
 | hP h ks ih =>
  have:nsum x (flatsB ks)=cntL x (ks.map Br.pb):=by
   clear h
   induction ks with
   | nil=>rfl
   | cons y r ih2 =>
    simp only [flatsB,nsum_append,List.map_cons,cntL]
    rw [ih y (by simp),ih2 (fun z hz=>ih z (by simp [hz]))]
  simp only [Br.flatB,nsum,Br.h,Br.pb,Pb.cnt,pbs_map,this]
theorem mem_flats {y:Br} {ks:List Br} (h:y ∈ flatsB ks):∃ k ∈ ks,y ∈ k.flatB:=by
 induction ks with
 | nil=>cases h
 | cons z r ih =>
  simp only [flatsB] at h
  rcases List.mem_append.1 h with h | h
  ·exact ⟨z,by simp,h⟩
  ·obtain ⟨k,h1,h2⟩:=ih h
   exact ⟨k,by simp [h1],h2⟩
/-- Rows, as far as they are met: the first i, and j names of the next. -/
def pre (x:Int) (F:List Br) (i:Nat) (ns:List Int):Nat:=nsum x (F.take i)+ns.count x
end Go.Proofs.YtmpmfamiegpmgaaGreatDoor

namespace Go.Proofs.YtmpmfamiegpmgaaGreatDoor

/-- Kinds of parts with one name, that is declared: of which space; 0, if the kind is none of these. -/
def oneSp (k:Int):Int :=
 bif k == 5 || k == 39 || k == 40 || k == 22 then 1 else bif k == 6 || k == 8 || k == 23 then 3 else bif k == 9 then 2 else bif k == 10 || k == 24 then 4 else bif k == 11 then 5 else 0
def isPath (k:Int):Bool:=k == 13 || k == 16 || k == 28 || k == 29 || k == 42 || k == 21
/-- Of which space a path's last name is. -/
def lastSp (k:Int):Int:=bif k == 28 then 1 else bif k == 29 then 2 else bif k == 42 || k == 21 then 3 else 4
/-- May a part of this kind have n names? -/
def mayP (k:Int) (n:Nat):Bool :=
 bif !(oneSp k == 0) || k == 20 || k == 17 then n == 1 else bif k == 12 then n == 2 else bif isPath k || k == 37 then !(n == 0) else n == 0
/-- Of which space name i of n is, and whether it is declared. -/
def roleP (k:Int) (i n:Nat):Int × Bool :=
 bif !(oneSp k == 0) then (oneSp k,true)
 else bif k == 12 then (bif i == 0 then (6,true) else (4,true))
 else bif k == 37 then (1,false) else bif k == 20 then (5,false) else bif k == 17 then (6,false)
 else bif isPath k then (bif i+1 == n then (lastSp k,false) else (4,false)) else (0,false)
/-- May a token of this kind be a name of that space? -/
def okK (sp tk:Int):Bool:=bif sp == 1 then tk == 6 || tk == 9 else bif sp == 3 then tk == 6 else tk == 7
end Go.Proofs.YtmpmfamiegpmgaaGreatDoor

namespace Go.Proofs.YtmpmfamiegpmgaaGreatDoor
open Go.RowKit
set_option maxRecDepth 20000
set_option linter.unusedVariables false
set_option linter.unusedSimpArgs false

def fitN (S:Src) (k:Int) (ns:List Int):Prop:=(1≤k∧k≤44)∧mayP k ns.length=true∧∀ i,(h:i < ns.length)→okK (roleP k i ns.length).1 (S.kd ns[i].toNat)=true
mutual
def Pb.Fit (S:Src):Pb→Prop
 | .mk k _ _ _ ns ks=>fitN S k ns∧FitL S ks
def FitL (S:Src):List Pb→Prop
 | []=>True
 | b :: r=>b.Fit S∧FitL S r
end
theorem fitL_iff (S:Src) (l:List Pb):FitL S l ↔ ∀ b ∈ l,b.Fit S:=by
 induction l with
 | nil=>simp [FitL]
 | cons x r ih=>simp [FitL,ih]
section
variable {S:Src}
theorem FitL.nil:FitL S []:=trivial
theorem FitL.cat {a b:List Pb} (h:FitL S a) (g:FitL S b):FitL S (a++b):=by
 rw [fitL_iff] at *
 intro x hx
 exact (List.mem_append.1 hx).elim (h x) (g x)
theorem FitL.one {b:Pb} (h:b.Fit S):FitL S [b]:=⟨h,trivial⟩
theorem fit_node {k:Int} {f t:Nat} {ns:List Nat} {l:List Pb} (hn:fitN S k (ns.map fun x:Nat=>(x:Int))) (hl:FitL S l):(node k f t ns l).Fit S:=⟨hn,hl⟩
theorem fit_marked {m:Int} {b:Pb} (h:b.Fit S):(marked m b).Fit S:=by
 cases b; exact h
theorem fit_none {k:Int} (h:mayP k 0=true) (hb:1≤k∧k≤44:=by decide):fitN S k (([]:List Nat).map fun x:Nat=>(x:Int)):=⟨hb,h,fun i hi=>by cases hi⟩
theorem fit_one {k:Int} {x:Nat} (h:mayP k 1=true) (hx:okK (roleP k 0 1).1 (S.kd x)=true) (hb:1≤k∧k≤44:=by decide):fitN S k ([x].map fun x:Nat=>(x:Int)) :=
 ⟨hb,h,fun i hi=>by
  have:i=0:=by simpa using hi
  subst this; exact hx⟩
theorem fit_path {k:Int} {p:List Nat} {x:Nat} (hk:isPath k=true) (ho:oneSp k=0) (h12:(k == 12)=false) (h37:(k == 37)=false) (h20:(k == 20)=false) (h17:(k == 17)=false) (hp:∀ y ∈ p,S.kd y=7) (hx:okK (lastSp k) (S.kd x)=true) (hb:1≤k∧k≤44:=by decide) :
  fitN S k ((p++[x]).map fun x:Nat=>(x:Int)):=by
 refine ⟨hb,?_,fun i hi=>?_⟩
 ·simp [mayP,ho,h12,h20,h17,hk]
 ·simp only [List.length_map,List.length_append,List.length_singleton] at hi
  simp only [roleP,ho,h12,h37,h20,h17,hk,beq_self_eq_true,Bool.not_true,cond_false,cond_true,List.length_map,List.length_append,List.length_singleton,List.getElem_map,Int.toNat_natCast]
  by_cases he:i=p.length
  ·subst he
   simp only [beq_self_eq_true,cond_true,List.getElem_append_right (Nat.le_refl _),Nat.sub_self,List.getElem_cons_zero]
   exact hx
  ·have hb:(i+1 == p.length+1)=false:=by simp; omega
   rw [hb,cond_false]
   rw [List.getElem_append_left (by omega)]
   have:=hp _ (List.getElem_mem (by omega:i < p.length))
   rw [this]; rfl
theorem fit_signs {ns:List Nat} (h0:ns≠[]) (h:∀ x ∈ ns,S.kd x=9):fitN S 37 (ns.map fun x:Nat=>(x:Int)):=by
 refine ⟨by decide,?_,fun i hi=>?_⟩
 ·have:ns.length≠0:=fun e=>h0 (List.length_eq_zero_iff.1 e)
  simp [mayP,oneSp,isPath,this]
 ·have hi':i < ns.length:=by simpa using hi
  have:=h _ (List.getElem_mem hi')
  simp only [List.getElem_map,Int.toNat_natCast,this]
  rfl
theorem oneOr_fit {k:Int} {n m:Nat} {l:List Pb} (hk:mayP k 0=true) (h:FitL S l) (hb:1≤k∧k≤44:=by decide):(oneOr l k n m []).Fit S:=by
 unfold oneOr
 split
 ·exact h.1
 ·exact fit_node (fit_none hk hb) h
/-- A path. -/
def PF (S:Src) (ks:List Int) (l:List Nat):Prop:=∃ p x,l=p++[x]∧(∀ y ∈ p,S.kd y=7)∧ks.contains (S.kd x)=true
theorem take_ft {ks:List Int} (n:Nat):Ret (S.take ks n) fun x m=>x=n∧m=n+1∧ks.contains (S.kd x)=true:=by
 unfold Src.take
 exact ret_if (fun h=>ret_ok ⟨rfl,rfl,h⟩) (fun _=>ret_form)
theorem take1_ft {k:Int} (n:Nat):Ret (S.take [k] n) fun x m=>S.kd x=k:=(take_ft n).mono fun x m h=>by simpa using h.2.2
theorem need_ft {t:List UInt8} (n:Nat):Ret (S.need t n) fun _ _=>True:=fun _ _ _=>trivial
theorem pathL_ft {ks:List Int}:∀ (f:Nat) (acc:List Nat) (n:Nat),(∃ p x,acc=p++[x]∧x+1=n∧(∀ y ∈ p,S.kd y=7)∧ks.contains (S.kd x)=true)→Ret (S.pathL ks f acc n) fun l m=>∃ p x,l=p++[x]∧x+1=m∧(∀ y ∈ p,S.kd y=7)∧ks.contains (S.kd x)=true:=by
 intro f
 induction f with
 | zero=>intro acc n _; exact ret_dry
 | succ f ih =>
  intro acc n h
  unfold Src.pathL
  refine ret_if (fun hc=>?_) (fun _=>ret_ok h)
  simp only [Bool.and_eq_true,beq_iff_eq] at hc
  obtain ⟨p,x,rfl,rfl,hp,hx⟩:=h
  refine ret_bind (take_ft (x+1+1)) (fun y m hy=>ih _ _ ⟨p++[x],y,rfl,by omega,fun z hz=>?_,hy.2.2⟩)
  rcases List.mem_append.1 hz with hz | hz
  ·exact hp z hz
  ·have:z=x:=by simpa using hz
   rw [this]; exact hc.1
theorem path_ft {ks:List Int} (n:Nat):Ret (S.path ks n) fun l m=>∃ p x,l=p++[x]∧x+1=m∧(∀ y ∈ p,S.kd y=7)∧ks.contains (S.kd x)=true:=by
 unfold Src.path
 exact ret_bind (take_ft n) (fun x m hx=>pathL_ft _ _ _ ⟨[],x,rfl,by omega,fun y hy=>(by cases hy),hx.2.2⟩)
theorem path7_ft (n:Nat):Ret (S.path [7] n) fun l m=>∃ p x,l=p++[x]∧(∀ y ∈ p,S.kd y=7)∧S.kd x=7 :=
 (path_ft n).mono fun l m ⟨p,x,h1,_,h2,h3⟩=>⟨p,x,h1,h2,by simpa using h3⟩
theorem typePath_ft (n:Nat):Ret (S.typePath n) fun l m=>∃ p x,l=p++[x]∧(∀ y ∈ p,S.kd y=7)∧S.kd x=6:=by
 unfold Src.typePath
 refine ret_bind (path_ft n) (fun l m ⟨p,x,h1,h2,h3,h4⟩=>ret_if (fun hc=>ret_ok ⟨p,x,h1,h3,?_⟩) (fun _=>ret_form))
 rw [← h2,Nat.add_sub_cancel] at hc
 simpa using hc
theorem fit_ty {l:List Nat} (h:∃ p x,l=p++[x]∧(∀ y ∈ p,S.kd y=7)∧S.kd x=6):fitN S 42 (l.map fun x:Nat=>(x:Int)):=by
 obtain ⟨p,x,rfl,h1,h2⟩:=h
 exact fit_path rfl rfl rfl rfl rfl rfl h1 (by rw [h2]; rfl)
theorem fit_where {l:List Nat} (h:∃ p x,l=p++[x]∧(∀ y ∈ p,S.kd y=7)∧S.kd x=6):fitN S 21 (l.map fun x:Nat=>(x:Int)):=by
 obtain ⟨p,x,rfl,h1,h2⟩:=h
 exact fit_path rfl rfl rfl rfl rfl rfl h1 (by rw [h2]; rfl)
theorem fit_7 {k:Int} {l:List Nat} (hk:k=13∨k=16∨k=29) (h:∃ p x,l=p++[x]∧(∀ y ∈ p,S.kd y=7)∧S.kd x=7):fitN S k (l.map fun x:Nat=>(x:Int)):=by
 obtain ⟨p,x,rfl,h1,h2⟩:=h
 rcases hk with rfl | rfl | rfl <;> exact fit_path rfl rfl rfl rfl rfl rfl h1 (by rw [h2]; rfl)
theorem value_ft (n:Nat):Ret (S.value n) fun x m=>S.kd x=6∨S.kd x=9:=by
 unfold Src.value
 exact ret_if (fun h=>(take1_ft (n+1)).mono fun x m hx=>.inr hx) (fun _=>(take1_ft n).mono fun x m hx=>.inl hx)
theorem ok_value {x:Nat} (h:S.kd x=6∨S.kd x=9):okK 1 (S.kd x)=true:=by rcases h with h | h <;> rw [h] <;> rfl
theorem rowL_ft {mark:List UInt8} {read:Nat→Out Pb} (hr:∀ k,Ret (read k) fun b m=>b.Fit S):∀ (f:Nat) (acc:List Pb) (n:Nat),FitL S acc→Ret (rowL S mark read f acc n) fun l m=>FitL S l:=by
 intro f
 induction f with
 | zero=>intro acc n _; exact ret_dry
 | succ f ih =>
  intro acc n h
  unfold rowL
  refine ret_if (fun hc=>?_) (fun _=>ret_ok h)
  exact ret_bind (hr (n+1)) (fun b m hb=>ih _ _ (h.cat (.one hb)))
theorem rowO_ft (F:Nat) {mark:List UInt8} {read:Nat→Out Pb} (hr:∀ k,Ret (read k) fun b m=>b.Fit S) (n:Nat):Ret (rowO S F mark read n) fun l m=>FitL S l:=by
 unfold rowO
 exact ret_bind (hr n) (fun b m hb=>rowL_ft hr F [b] m (.one hb))
section
variable {F:Nat} {rec:Nt→Nat→Nat→Out Pb} {d:Nat} (hrec:∀ nt k,S.may nt k→Ret (rec nt d k) fun b m=>b.Fit S)
include hrec
theorem atomicTyO_ft (n:Nat):Ret (atomicTyO S F rec d n) fun b m=>b.Fit S:=by
 unfold atomicTyO
 refine ret_if (fun h=>ret_ok (fit_node (fit_none rfl) .nil)) (fun _=>ret_if (fun h=>?_) (fun _=>?_))
 ·refine ret_bind (rowO_ft F (fun k=>hrec .ty k trivial) (n+1)) (fun l m hl=>?_)
  refine ret_bind (need_ft m) (fun _ m2 h2=>?_)
  unfold pick1
  split
  ·exact ret_ok hl.1
  ·exact ret_bind (typePath_ft m2) (fun p m3 hp=>ret_ok (fit_node (fit_ty hp) hl))
 ·exact ret_bind (typePath_ft n) (fun p m3 hp=>ret_ok (fit_node (fit_ty hp) .nil))
theorem appliedL_ft (n:Nat):∀ (f:Nat) (b:Pb) (m:Nat),b.Fit S→Ret (appliedL S n f b m) fun b m=>b.Fit S:=by
 have _:=hrec
 intro f
 induction f with
 | zero=>intro b m _; exact ret_dry
 | succ f ih =>
  intro b m h
  unfold appliedL
  exact ret_if (fun _=>ret_bind (typePath_ft m) (fun p m1 hp=>ih _ _ (fit_node (fit_ty hp) (.one h)))) (fun _=>ret_ok h)
theorem appliedO_ft (n:Nat):Ret (appliedO S F rec d n) fun b m=>b.Fit S:=by
 unfold appliedO
 exact ret_bind (atomicTyO_ft hrec n) (fun b m hb=>appliedL_ft hrec n F b m hb)
theorem productO_ft (n:Nat):Ret (productO S F rec d n) fun b m=>b.Fit S:=by
 unfold productO
 exact ret_bind (rowO_ft F (appliedO_ft hrec) n) (fun l m hl=>ret_ok (oneOr_fit rfl hl))
theorem tyO_ft (n:Nat):Ret (tyO S F rec d n) fun b m=>b.Fit S:=by
 unfold tyO
 refine ret_bind (productO_ft hrec n) (fun b m hb=>ret_if (fun h=>?_) (fun _=>ret_ok hb))
 exact ret_bind (hrec .ty (m+1) trivial) (fun c m2 hc=>ret_ok (fit_node (fit_none rfl) ⟨hb,hc,trivial⟩))
omit hrec in
theorem tupleO_ft {fr n:Nat} {member:Nat→Out Pb} (hm:∀ k,Ret (member k) fun b m=>b.Fit S):Ret (tupleO S F fr member n) fun b m=>b.Fit S:=by
 unfold tupleO
 refine ret_if (fun h=>ret_ok (fit_node (fit_none rfl) .nil)) (fun _=>?_)
 refine ret_bind (rowO_ft F hm n) (fun l m hl=>?_)
 exact ret_bind (need_ft m) (fun _ m2 h2=>ret_ok (oneOr_fit rfl hl))
omit hrec in
theorem plainO_ft {named:Int} (hn:named=28∨named=39) {member:Nat→Out Pb} (hm:∀ k,Ret (member k) fun b m=>b.Fit S) (n:Nat):Ret (plainO S F named member n) fun b m=>b.Fit S:=by
 unfold plainO
 refine ret_if (fun h=>ret_ok (fit_node (fit_none rfl) .nil)) (fun _=>ret_if (fun h=>ret_ok (fit_node (fit_none rfl) .nil)) (fun _=>ret_if (fun h=>?_) (fun _=>?_)))
 ·exact tupleO_ft hm
 ·refine ret_bind (value_ft n) (fun x m hx=>ret_ok (fit_node ?_ .nil))
  rcases hn with rfl | rfl
  ·exact fit_path (p:=[]) rfl rfl rfl rfl rfl rfl (fun y hy=>by cases hy) (ok_value hx)
  ·exact fit_one rfl (ok_value hx)
theorem atomicPatO_ft (n:Nat):Ret (atomicPatO S F rec d n) fun b m=>b.Fit S:=by
 unfold atomicPatO
 refine ret_if (fun h=>ret_ok (fit_node (fit_none rfl) .nil)) (fun _=>ret_if (fun _=>?_) (fun _=>plainO_ft (.inr rfl) (fun k=>hrec .pat k trivial) n))
 exact ret_bind (path7_ft n) (fun p m hp=>ret_ok (fit_node (fit_7 (.inr (.inr rfl)) hp) .nil))
theorem patO_ft (n:Nat):Ret (patO S F rec d n) fun b m=>b.Fit S:=by
 unfold patO
 refine ret_if (fun h=>?_) (fun _=>ret_if (fun _=>?_) (fun _=>atomicPatO_ft hrec n))
 ·simp only [Bool.and_eq_true,beq_iff_eq] at h
  exact ret_bind (hrec .pat (n+2) trivial) (fun b m hb=>ret_ok (fit_node (fit_one rfl (ok_value (.inl h.1))) (.one hb)))
 ·refine ret_bind (path7_ft n) (fun p m hp=>ret_if (fun _=>?_) (fun _=>ret_ok (fit_node (fit_7 (.inr (.inr rfl)) hp) .nil)))
  exact ret_bind (atomicPatO_ft hrec m) (fun b m2 hb=>ret_ok (fit_node (fit_7 (.inr (.inr rfl)) hp) (.one hb)))
theorem decsL_ft (a:Nat):∀ (f:Nat) (acc:List Pb) (n:Nat),FitL S acc→Ret (decsL S rec d a f acc n) fun l m=>FitL S l:=by
 intro f
 induction f with
 | zero=>intro acc n _; exact ret_dry
 | succ f ih =>
  intro acc n h
  unfold decsL
  refine ret_if (fun hc=>ih _ _ h) (fun _=>ret_if (fun hd=>?_) (fun _=>ret_ok h))
  exact ret_bind (hrec (.dec a) n hd) (fun b m hb=>ih _ _ (h.cat (.one hb)))
theorem decsO_ft (a n:Nat):Ret (decsO S F rec d a n) fun l m=>FitL S l:=decsL_ft hrec a F [] n .nil
theorem withinO_ft (a n:Nat):Ret (withinO S F rec d a n) fun b m=>b.Fit S:=by
 unfold withinO
 exact ret_bind (decsO_ft hrec a n) (fun l m hl=>ret_ok (fit_node (fit_none rfl) hl))
theorem atomO_ft (n:Nat):Ret (atomO S F rec d n) fun b m=>b.Fit S:=by
 unfold atomO
 refine ret_if (fun _=>?_) (fun _=>ret_if (fun h=>?_) (fun _=>plainO_ft (.inl rfl) (fun k=>hrec .exp k trivial) n))
 ·refine ret_bind (path_ft n) (fun l m ⟨p,x,h1,h2,h3,h4⟩=>?_)
  have hm:m - 1=x:=by omega
  rw [hm]
  refine ret_if (fun hc=>ret_ok (fit_node (fit_7 (.inr (.inr rfl)) ⟨p,x,h1,h3,by simpa using hc⟩) .nil)) (fun hc=>ret_ok (fit_node ?_ .nil))
  rw [h1]
  refine fit_path rfl rfl rfl rfl rfl rfl h3 (ok_value (.inl ?_))
  have hc':S.kd x≠7:=by simpa using hc
  have h4':S.kd x=7∨S.kd x=6:=by simpa using h4
  exact h4'.resolve_left hc'
 ·refine ret_bind (withinO_ft hrec 0 (n+1)) (fun ds m hd=>?_)
  refine ret_bind (need_ft m) (fun _ m2 h2=>?_)
  refine ret_bind (hrec .exp m2 trivial) (fun e m3 he=>?_)
  exact ret_bind (need_ft m3) (fun _ m4 h4=>ret_ok (fit_node (fit_none rfl) ⟨hd,he,trivial⟩))
theorem callL_ft:∀ (f:Nat) (acc:List Pb) (n:Nat),FitL S acc→Ret (callL S F rec d f acc n) fun l m=>FitL S l:=by
 intro f
 induction f with
 | zero=>intro acc n _; exact ret_dry
 | succ f ih =>
  intro acc n h
  unfold callL
  exact ret_if (fun _=>ret_bind (atomO_ft hrec n) (fun b m hb=>ih _ _ (h.cat (.one hb)))) (fun _=>ret_ok h)
theorem callO_ft (n:Nat):Ret (callO S F rec d n) fun b m=>b.Fit S:=by
 unfold callO
 refine ret_bind (atomO_ft hrec n) (fun b m hb=>?_)
 exact ret_bind (callL_ft hrec F [b] m (.one hb)) (fun l m2 hl=>ret_ok (oneOr_fit rfl hl))
theorem infixL_ft:∀ (f:Nat) (sg:List Nat) (acc:List Pb) (n:Nat),(acc.length=sg.length+1∧(∀ x ∈ sg,S.kd x=9)∧FitL S acc)→Ret (infixL S F rec d f sg acc n) fun l m=>l.2.length=l.1.length+1∧(∀ x ∈ l.1,S.kd x=9)∧FitL S l.2:=by
 intro f
 induction f with
 | zero=>intro sg acc n _; exact ret_dry
 | succ f ih =>
  intro sg acc n h
  unfold infixL
  refine ret_if (fun _=>?_) (fun _=>ret_ok h)
  refine ret_bind (take1_ft n) (fun x m hx=>ret_bind (callO_ft hrec m) (fun b m2 hb=>ih _ _ _ ?_))
  obtain ⟨h1,h2,h3⟩:=h
  refine ⟨by simp only [List.length_append,List.length_singleton]; omega,fun y hy=>?_,h3.cat (.one hb)⟩
  rcases List.mem_append.1 hy with hy | hy
  ·exact h2 y hy
  ·have:y=x:=by simpa using hy
   rw [this]; exact hx
theorem infixO_ft (n:Nat):Ret (infixO S F rec d n) fun b m=>b.Fit S:=by
 unfold infixO
 refine ret_bind (callO_ft hrec n) (fun b m hb=>?_)
 refine ret_bind (infixL_ft hrec F [] [b] m ⟨rfl,fun x hx=>(by cases hx),.one hb⟩) (fun l m2 hl=>ret_ok ?_)
 obtain ⟨sg,ks⟩:=l
 obtain ⟨h1,h2,h3⟩:=hl
 have h1:ks.length=sg.length+1:=h1
 have h3:FitL S ks:=h3
 show (oneOr ks 37 n m2 sg).Fit S
 unfold oneOr
 split
 ·exact h3.1
 ·next hne =>
  refine fit_node (fit_signs (fun e=>?_) h2) h3
  subst e
  match ks,h1,hne with
  | [a],_,hne=>exact hne a rfl
theorem clauseO_ft {k:Int} (hk:mayP k 0=true) {fr n:Nat} (hb:1≤k∧k≤44:=by decide):Ret (clauseO S rec d k fr n) fun b m=>b.Fit S:=by
 unfold clauseO
 refine ret_bind (hrec .pat n trivial) (fun p m hp=>?_)
 refine ret_bind (need_ft m) (fun _ m2 h2=>?_)
 exact ret_bind (hrec .exp m2 trivial) (fun e m3 he=>ret_ok (fit_node (fit_none hk hb) ⟨hp,he,trivial⟩))
theorem armO_ft (n:Nat):Ret (armO S rec d n) fun b m=>b.Fit S:=clauseO_ft hrec rfl
theorem expO_ft (n:Nat):Ret (expO S F rec d n) fun b m=>b.Fit S:=by
 unfold expO
 refine ret_if (fun h=>?_) (fun _=>ret_if (fun h=>?_) (fun _=>ret_if (fun h=>?_) (fun _=>infixO_ft hrec n)))
 ·refine ret_bind (hrec .exp (n+1) trivial) (fun a m ha=>?_)
  refine ret_bind (need_ft m) (fun _ m2 h2=>?_)
  refine ret_bind (hrec .exp m2 trivial) (fun b m3 hb=>?_)
  refine ret_bind (need_ft m3) (fun _ m4 h4=>?_)
  exact ret_bind (hrec .exp m4 trivial) (fun c m5 hc=>ret_ok (fit_node (fit_none rfl) ⟨ha,hb,hc,trivial⟩))
 ·refine ret_bind (hrec .exp (n+1) trivial) (fun a m ha=>?_)
  refine ret_bind (need_ft m) (fun _ m2 h2=>?_)
  exact ret_bind (rowO_ft F (armO_ft hrec) m2) (fun l m3 hl=>ret_ok (fit_node (fit_none rfl) ((FitL.one ha).cat hl)))
 ·exact clauseO_ft hrec rfl
omit hrec in
theorem typeNameO_ft (n:Nat):Ret (typeNameO S F n) fun x m=>S.kd x=6:=by
 unfold typeNameO
 refine ret_if (fun h=>take1_ft (n+1)) (fun _=>ret_if (fun h=>?_) (fun _=>take1_ft n))
 refine ret_bind (P:=fun _ _=>True) (fun _ _ _=>trivial) (fun _ m hm=>?_)
 refine ret_bind (P:=fun _ _=>True) (fun _ _ _=>trivial) (fun _ m2 h2=>?_)
 exact ret_bind (need_ft m2) (fun _ m3 h3=>take1_ft m3)
theorem conO_ft (n:Nat):Ret (conO S rec d n) fun b m=>b.Fit S:=by
 unfold conO
 refine ret_bind (take1_ft n) (fun x m hx=>ret_if (fun h=>?_) (fun _=>ret_ok (fit_node (fit_one rfl (by rw [hx]; rfl)) .nil)))
 exact ret_bind (hrec .ty (m+1) trivial) (fun b m2 hb=>ret_ok (fit_node (fit_one rfl (by rw [hx]; rfl)) (.one hb)))
theorem dbindO_ft (n:Nat):Ret (dbindO S F rec d n) fun b m=>b.Fit S:=by
 unfold dbindO
 refine ret_bind (typeNameO_ft n) (fun x m hx=>?_)
 refine ret_bind (need_ft m) (fun _ m2 h2=>?_)
 exact ret_bind (rowO_ft F (conO_ft hrec) m2) (fun l m3 hl=>ret_ok (fit_node (fit_one rfl (by rw [hx]; rfl)) hl))
theorem datatypesO_ft {fr n:Nat}:Ret (datatypesO S F rec d fr n) fun b m=>b.Fit S:=by
 unfold datatypesO
 exact ret_bind (rowO_ft F (dbindO_ft hrec) n) (fun l m hl=>ret_ok (fit_node (fit_none rfl) hl))
theorem specO_ft (n:Nat):Ret (specO S F rec d n) fun b m=>b.Fit S:=by
 unfold specO
 refine ret_if (fun h=>?_) (fun _=>ret_if (fun h=>?_) (fun _=>ret_if (fun h=>?_) (fun _=>ret_if (fun h=>?_) (fun _=>?_))))
 ·refine ret_bind (value_ft (n+1)) (fun x m hx=>?_)
  refine ret_bind (need_ft m) (fun _ m2 h2=>?_)
  exact ret_bind (hrec .ty m2 trivial) (fun b m3 hb=>ret_ok (fit_node (fit_one rfl (ok_value hx)) (.one hb)))
 ·refine ret_bind (typeNameO_ft (n+1)) (fun x m hx=>ret_if (fun h2=>?_) (fun _=>ret_ok (fit_node (fit_one rfl (by rw [hx]; rfl)) .nil)))
  exact ret_bind (hrec .ty (m+1) trivial) (fun b m3 hb=>ret_ok (fit_node (fit_one rfl (by rw [hx]; rfl)) (.one hb)))
 ·exact datatypesO_ft hrec
 ·refine ret_bind (take1_ft (n+1)) (fun x m hx=>?_)
  refine ret_bind (need_ft m) (fun _ m2 h2=>?_)
  exact ret_bind (hrec .sig m2 trivial) (fun b m3 hb=>ret_ok (fit_node (fit_one rfl (by rw [hx]; rfl)) (.one hb)))
 ·refine ret_bind (need_ft n) (fun _ m2 h2=>?_)
  exact ret_bind (hrec .sig m2 trivial) (fun b m3 hb=>ret_ok (fit_node (fit_none rfl) (.one hb)))
theorem specsL_ft:∀ (f:Nat) (acc:List Pb) (n:Nat),FitL S acc→Ret (specsL S F rec d f acc n) fun l m=>FitL S l:=by
 intro f
 induction f with
 | zero=>intro acc n _; exact ret_dry
 | succ f ih =>
  intro acc n h
  unfold specsL
  refine ret_if (fun hc=>ret_ok h) (fun _=>ret_if (fun hc=>ih _ _ h) (fun _=>?_))
  exact ret_bind (specO_ft hrec n) (fun b m hb=>ih _ _ (h.cat (.one hb)))
theorem bareSigO_ft (n:Nat):Ret (bareSigO S F rec d n) fun b m=>b.Fit S:=by
 unfold bareSigO
 refine ret_if (fun h=>?_) (fun _=>ret_bind (take1_ft n) (fun x m hx=>ret_ok (fit_node (fit_one rfl (by rw [hx]; rfl)) .nil)))
 exact ret_bind (specsL_ft hrec F [] (n+1) .nil) (fun l m hl=>ret_ok (fit_node (fit_none rfl) hl))
theorem whereL_ft (p:Nat):∀ (f:Nat) (b:Pb) (n:Nat),b.Fit S→Ret (whereL S rec d p f b n) fun b m=>b.Fit S:=by
 intro f
 induction f with
 | zero=>intro b n _; exact ret_dry
 | succ f ih =>
  intro b n h
  unfold whereL
  refine ret_if (fun hc=>?_) (fun _=>ret_ok h)
  refine ret_bind (need_ft (n+1)) (fun _ m h1=>?_)
  refine ret_bind (typePath_ft m) (fun p m2 hp=>?_)
  refine ret_bind (need_ft m2) (fun _ m3 h3=>?_)
  exact ret_bind (hrec .ty m3 trivial) (fun c m4 hb=>ih _ _ (fit_node (fit_where hp) ⟨h,hb,trivial⟩))
theorem sigO_ft (n:Nat):Ret (sigO S F rec d n) fun b m=>b.Fit S:=by
 unfold sigO
 exact ret_bind (bareSigO_ft hrec n) (fun b m hb=>whereL_ft hrec n F b m hb)
theorem bareStrO_ft (n:Nat):Ret (bareStrO S F rec d n) fun b m=>b.Fit S:=by
 unfold bareStrO
 refine ret_if (fun h=>?_) (fun _=>ret_if (fun h=>?_) (fun _=>ret_bind (path7_ft n) (fun p m hp=>ret_ok (fit_node (fit_7 (.inr (.inl rfl)) hp) .nil))))
 ·refine ret_bind (decsO_ft hrec 1 (n+1)) (fun l m hl=>?_)
  exact ret_bind (need_ft m) (fun _ m2 h2=>ret_ok (fit_node (fit_none rfl) hl))
 ·simp only [Bool.and_eq_true,beq_iff_eq] at h
  refine ret_bind (hrec .str (n+2) trivial) (fun b m hb=>?_)
  exact ret_bind (need_ft m) (fun _ m2 h2=>ret_ok (fit_node (fit_one rfl (by rw [h.1]; rfl)) (.one hb)))
theorem sealL_ft (p:Nat):∀ (f:Nat) (b:Pb) (n:Nat),b.Fit S→Ret (sealL S rec d p f b n) fun b m=>b.Fit S:=by
 intro f
 induction f with
 | zero=>intro b n _; exact ret_dry
 | succ f ih =>
  intro b n h
  unfold sealL
  refine ret_if (fun _=>ret_ok h) (fun hc=>?_)
  exact ret_bind (hrec .sig (n+1) trivial) (fun s m hs=>ih _ _ (fit_marked (fit_node (fit_none rfl) ⟨h,hs,trivial⟩)))
theorem strO_ft (n:Nat):Ret (strO S F rec d n) fun b m=>b.Fit S:=by
 unfold strO
 exact ret_bind (bareStrO_ft hrec n) (fun b m hb=>sealL_ft hrec n F b m hb)
theorem bodyO_ft (n:Nat):Ret (bodyO S rec d n) fun l m=>FitL S l.2:=by
 unfold bodyO
 refine ret_bind (P:=fun l m=>FitL S l) (ret_if (fun _=>ret_ok .nil) (fun hc=>?_)) (fun l m hl=>?_)
 ·exact ret_bind (hrec .sig (n+1) trivial) (fun s m hs=>ret_ok (.one hs))
 ·refine ret_bind (need_ft m) (fun _ m2 h2=>?_)
  exact ret_bind (hrec .str m2 trivial) (fun b m3 hb=>ret_ok (hl.cat (.one hb)))
theorem structureO_ft {fr n:Nat}:Ret (structureO S rec d fr n) fun b m=>b.Fit S:=by
 unfold structureO
 refine ret_bind (take1_ft n) (fun x m hx=>?_)
 exact ret_bind (bodyO_ft hrec m) (fun l m2 hl=>ret_ok (fit_marked (fit_node (fit_one rfl (by rw [hx]; rfl)) hl)))
theorem functorO_ft {fr n:Nat}:Ret (functorO S rec d fr n) fun b m=>b.Fit S:=by
 unfold functorO
 refine ret_bind (take1_ft n) (fun x m hx=>?_)
 refine ret_bind (need_ft m) (fun _ m2 h2=>?_)
 refine ret_bind (take1_ft m2) (fun y m3 hy=>?_)
 refine ret_bind (need_ft m3) (fun _ m4 h4=>?_)
 refine ret_bind (hrec .sig m4 trivial) (fun g m5 hg=>?_)
 refine ret_bind (need_ft m5) (fun _ m6 h6=>?_)
 refine ret_bind (bodyO_ft hrec m6) (fun l m7 hl=>ret_ok (fit_marked (fit_node ⟨by decide,rfl,fun i hi=>?_⟩ ((FitL.one hg).cat hl))))
 have hi':i < 2:=by simpa using hi
 match i,hi' with
 | 0,_=>show okK 6 (S.kd x)=true; rw [hx]; rfl
 | 1,_=>show okK 4 (S.kd y)=true; rw [hy]; rfl
theorem funL_ft:∀ (f:Nat) (acc:List Pb) (n:Nat),FitL S acc→Ret (funL S F rec d f acc n) fun l m=>FitL S l:=by
 intro f
 induction f with
 | zero=>intro acc n _; exact ret_dry
 | succ f ih =>
  intro acc n h
  unfold funL
  exact ret_if (fun _=>ret_bind (atomicPatO_ft hrec n) (fun b m hb=>ih _ _ (h.cat (.one hb)))) (fun _=>ret_ok h)
theorem functionO_ft (n:Nat):Ret (functionO S F rec d n) fun b m=>b.Fit S:=by
 unfold functionO
 refine ret_bind (value_ft n) (fun x m hx=>?_)
 refine ret_bind (atomicPatO_ft hrec m) (fun b m2 hb=>?_)
 refine ret_bind (funL_ft hrec F [b] m2 (.one hb)) (fun l m3 hl=>?_)
 refine ret_bind (need_ft m3) (fun _ m4 h4=>?_)
 exact ret_bind (hrec .exp m4 trivial) (fun e m5 he=>ret_ok (fit_node (fit_one rfl (ok_value hx)) (hl.cat (.one he))))
theorem localO_ft {fr n:Nat} (a:Nat):Ret (localO S F rec d fr a n) fun b m=>b.Fit S:=by
 unfold localO
 refine ret_bind (withinO_ft hrec a n) (fun x m hx=>?_)
 refine ret_bind (need_ft m) (fun _ m2 h2=>?_)
 refine ret_bind (withinO_ft hrec a m2) (fun y m3 hy=>?_)
 exact ret_bind (need_ft m3) (fun _ m4 h4=>ret_ok (fit_node (fit_none rfl) ⟨hx,hy,trivial⟩))
theorem decO_ft (a n:Nat):Ret (decO S F rec d a n) fun b m=>b.Fit S:=by
 unfold decO
 refine ret_if (fun h=>?_) (fun q1=>ret_if (fun h=>?_) (fun q2=>ret_if (fun h=>?_) (fun q3=>ret_if (fun h=>?_) (fun q4=>ret_if (fun h=>?_) (fun q5=>ret_if (fun h=>?_) (fun q6=>ret_if (fun h=>?_) (fun q7=>ret_if (fun h=>?_) (fun q8=>?_))))))))
 ·refine ret_bind (hrec .pat (n+1) trivial) (fun p m hp=>?_)
  refine ret_bind (need_ft m) (fun _ m2 h2=>?_)
  exact ret_bind (hrec .exp m2 trivial) (fun e m3 he=>ret_ok (fit_node (fit_none rfl) ⟨hp,he,trivial⟩))
 ·exact ret_bind (rowO_ft F (functionO_ft hrec) (n+1)) (fun l m hl=>ret_ok (fit_node (fit_none rfl) hl))
 ·refine ret_bind (typeNameO_ft (n+1)) (fun x m hx=>?_)
  refine ret_bind (need_ft m) (fun _ m2 h2=>?_)
  exact ret_bind (hrec .ty m2 trivial) (fun b m3 hb=>ret_ok (fit_node (fit_one rfl (by rw [hx]; rfl)) (.one hb)))
 ·exact datatypesO_ft hrec
 ·exact structureO_ft hrec
 ·refine ret_bind (take1_ft (n+1)) (fun x m hx=>?_)
  refine ret_bind (need_ft m) (fun _ m2 h2=>?_)
  exact ret_bind (hrec .sig m2 trivial) (fun b m3 hb=>ret_ok (fit_node (fit_one rfl (by rw [hx]; rfl)) (.one hb)))
 ·exact functorO_ft hrec
 ·exact ret_bind (path7_ft (n+1)) (fun p m hp=>ret_ok (fit_node (fit_7 (.inl rfl) hp) .nil))
 ·exact localO_ft hrec a
end
theorem parts_ft:∀ (f:Nat) (nt:Nt) (d n:Nat),S.may nt n→Ret (parts S f nt d n) fun b m=>b.Fit S:=by
 intro f
 induction f with
 | zero=>intro nt d n _; exact ret_dry
 | succ f ih =>
  intro nt d n hm
  unfold parts
  refine ret_if (fun _=>ret_deep) (fun _=>?_)
  have hrec:∀ nt k,S.may nt k→Ret (parts S f nt (d+1) k) fun b m=>b.Fit S:=fun nt k hk=>ih nt (d+1) k hk
  cases nt with
  | exp=>exact expO_ft hrec n
  | pat=>exact patO_ft hrec n
  | ty=>exact tyO_ft hrec n
  | sig=>exact sigO_ft hrec n
  | str=>exact strO_ft hrec n
  | dec a=>exact decO_ft hrec a n
theorem fileO_ft (F:Nat):Ret (fileO S F 0) fun b m=>b.Fit S:=by
 unfold fileO
 exact ret_bind (decsO_ft (F:=F) (rec:=parts S F) (d:=0) (fun nt k hk=>parts_ft F nt 0 k hk) 2 0) (fun l m hl=>ret_ok (fit_node (fit_none rfl) hl))
end
end Go.Proofs.YtmpmfamiegpmgaaGreatDoor

namespace Go.Proofs.YtmpmfamiegpmgaaGreatDoor
open Go.RowKit
set_option maxRecDepth 20000
set_option linter.unusedVariables false
set_option linter.unusedSimpArgs false

/-- A branch, and where its cells lie. -/
structure BA where
 y:Br
 b:Nat
 o:Nat
abbrev BA.ad (e:BA):Addr:=⟨e.b,e.o,none⟩
def kidsFrom (b:Nat):Nat→List Br→List BA
 | _,[]=>[]
 | o,k :: r=>⟨k,b,o⟩ :: kidsFrom b (o+6) r
theorem kidsFrom_y (b:Nat) (l:List Br):∀ o,(kidsFrom b o l).map BA.y=l:=by
 induction l with
 | nil=>intro o; rfl
 | cons x r ih=>intro o; simp only [kidsFrom,List.map_cons,ih]
theorem kidsFrom_get (b:Nat) (l:List Br):∀ o i:Nat,(kidsFrom b o l)[i]?=l[i]?.map fun k=>(⟨k,b,o+i * 6⟩:BA):=by
 induction l with
 | nil=>intro o i; simp [kidsFrom]
 | cons x r ih =>
  intro o i
  cases i with
  | zero=>simp [kidsFrom]
  | succ i =>
   simp only [kidsFrom,List.getElem?_cons_succ,ih]
   rw [show o+6+i * 6=o+(i+1) * 6 by omega]
def BA.kids (e:BA):List BA:=match e.y.h.kp with
 | some a=>kidsFrom a.block a.off e.y.ks
 | none=>[]
structure BA.Good (e:BA) (w:World):Prop where
 at_:BrAt w e.b e.o e.y.h
 lies:e.y.Lies w
 lt:e.b < w.heap.size
theorem kids_fst (e:BA) (w:World) (h:e.Good w):e.kids.map BA.y=e.y.ks:=by
 obtain ⟨_,hk,_⟩:=(lies_iff _ _).1 h.lies
 unfold BA.kids
 obtain ⟨hn,h0 | ⟨b,off,hp,_⟩⟩:=hk
 ·have:e.y.ks=[]:=List.length_eq_zero_iff.1 (by omega)
  rw [this]
  cases e.y.h.kp <;> simp [kidsFrom]
 ·rw [hp]
  exact kidsFrom_y _ _ _
theorem kids_len (e:BA) (w:World) (h:e.Good w):e.kids.length=e.y.ks.length:=by
 rw [← kids_fst e w h,List.length_map]
theorem kids_at (e:BA) (w:World) (h:e.Good w):e.kids.length=0∨∃ b off,e.y.h.kp=some ⟨b,off,none⟩∧e.kids.length≤e.y.h.kc∧∀ i e',e.kids[i]?=some e'→BA.ad e'=⟨b,off+i * 6,none⟩:=by
 obtain ⟨_,hk,_⟩:=(lies_iff _ _).1 h.lies
 have hl:=kids_len e w h
 obtain ⟨hn,h0 | ⟨b,off,hp,hc,_⟩⟩:=hk
 ·left; omega
 ·right
  refine ⟨b,off,hp,by omega,fun i e' he=>?_⟩
  unfold BA.kids at he
  rw [hp] at he
  simp only [kidsFrom_get,Option.map_eq_some_iff] at he
  obtain ⟨k,_,rfl⟩:=he
  rfl
theorem kids_good (e:BA) (w:World) (h:e.Good w):∀ x ∈ e.kids,x.Good w:=by
 intro x hx
 obtain ⟨_,hk,hall⟩:=(lies_iff _ _).1 h.lies
 obtain ⟨hn,h0 | ⟨b,off,hp,hc,hb,hat⟩⟩:=hk
 ·have hl:=kids_len e w h
  have:e.kids=[]:=List.length_eq_zero_iff.1 (by omega)
  rw [this] at hx; cases hx
 ·obtain ⟨i,hi,hxi⟩:=List.mem_iff_getElem.1 hx
  have hg:=List.getElem?_eq_getElem hi
  rw [hxi] at hg
  unfold BA.kids at hg
  rw [hp] at hg
  simp only [kidsFrom_get,Option.map_eq_some_iff] at hg
  obtain ⟨k,hk2,rfl⟩:=hg
  obtain ⟨hi',rfl⟩:=List.getElem?_eq_some_iff.1 hk2
  exact ⟨hat i hi',hall _ (List.getElem_mem hi'),hb⟩
theorem BA.Good.step {e:BA} {w w':World} (h:e.Good w) (hb:Below w.heap.size w w'):e.Good w':=⟨h.at_.step h.lt hb,h.lies.step _ hb,Nat.lt_of_lt_of_le h.lt hb.size⟩
theorem flatB_eq (y:Br):y.flatB=y :: flatsB y.ks:=by cases y; simp only [Br.flatB,Br.ks]
def szB (e:BA):Nat:=e.y.flatB.length
theorem szs_flats (l:List BA):szs szB l=(flatsB (l.map BA.y)).length:=by
 induction l with
 | nil=>rfl
 | cons x r ih=>simp only [szs,List.map_cons,flatsB,List.length_append,ih,szB]
theorem cf126 (args:Array Value) (w:World):Sem.run Tryz.prog (callFunc 126 args) w=.ok (.enter 126 args) w:=cf_enter Tryz.func126 (by kernel_rfl) (by kernel_rfl) args w
/-- All parts of a branch are handed on, in order. -/
theorem parts_walk (e0:BA) (w0 wS:World) (hg0:e0.Good w0) (hsz:e0.y.flatB.length≤10000000) (fw:Nat) (cw:Array Value) (hcw:∀ args w,Sem.run Tryz.prog (callFunc fw args) w=.ok (.enter fw args) w)
  (A:List Br→Nat→World→Prop)
  (stab:∀ l g w w' g',A l g w→w.grownBy w' (some g)→(g'=g∨w.heap.size≤g')→A l g' w')
  (low:∀ l g w,A l g w→Below w0.heap.size w0 w)
  (HW:∀ l (e:BA) r g w,A l g w→g < w.heap.size→e.Good w0→l++e.y :: r=e0.y.flatB→Calls Tryz.prog fw (#[.pointer (some e.ad)]++cw) w fun x w'=>x=.returned (.bool true)∧A (l++[e.y]) g w'∧w.heap.size≤w'.heap.size∧w'.heap[g]?=w.heap[g]?)
  (h0:∀ w',Below wS.heap.size wS w'→A [] wS.heap.size w') :
  Calls Tryz.prog 125 #[.pointer (some e0.ad),.func (.func 126) #[] #[],.func (.func fw) #[] cw] wS fun x w'=>x=.returned (.bool true)∧∃ g,A e0.y.flatB g w':=by
 have szK:∀ e:BA,szs szB e.kids+1≤szB e:=fun e=>by
  rw [szs_flats,szB,flatB_eq,List.length_cons]
  have:(flatsB (e.kids.map BA.y)).length≤(flatsB e.y.ks).length:=by
   unfold BA.kids
   cases e.y.h.kp with
   | none=>simp [flatsB]
   | some a =>
    simp only
    rw [kidsFrom_y]
    exact Nat.le_refl _
  omega
 refine (walkB_any BA.ad szB (fun e=>flatB_pos e.y)
  (fun st g w=>∃ l,A l g w∧l++flatsB (st.map BA.y)=e0.y.flatB∧∀ e ∈ st,e.Good w0)
  (fun e st g w=>∃ l,A (l++[e.y]) g w∧l++e.y :: (flatsB e.y.ks++flatsB (st.map BA.y))=e0.y.flatB∧e.Good w0∧∀ e ∈ st,e.Good w0)
  (fun st g w w' g' ⟨l,h1,h2,h3⟩ h4 h5=>⟨l,stab _ _ _ _ _ h1 h4 h5,h2,h3⟩)
  126 fw #[] cw cf126 hcw ?_ ?_ e0 wS hsz (fun w' hb=>⟨[],h0 w' hb,by simp [flatsB],fun e he=>by rw [List.mem_singleton.1 he]; exact hg0⟩)).mono ?_
 ·rintro e st g w ⟨l,h1,h2,h3⟩ hgl
  have he:=h3 e (by simp)
  have hx:l++e.y :: (flatsB e.y.ks++flatsB (st.map BA.y))=e0.y.flatB:=by
   rw [← h2,List.map_cons,flatsB,flatB_eq]; simp
  refine (HW l e _ g w h1 hgl he hx).mono ?_
  rintro x w' ⟨rfl,h4,h5,h6⟩
  exact ⟨rfl,⟨l,h4,hx,he,fun z hz=>h3 z (by simp [hz])⟩,h5,h6⟩
 ·rintro e st g w ⟨l,h1,h2,h3,h4⟩ hgl
  have he:=h3.step (low _ _ _ h1)
  refine (branchKids_any e.b e.o e.y.h w he.at_).mono ?_
  rintro x w' ⟨rfl,rfl⟩
  have hkl:=kids_len e w0 h3
  have hkn:e.y.h.kn=e.kids.length:=by
   have:=((lies_iff _ _).1 h3.lies).2.1.1
   omega
  refine ⟨e.y.h.kp,e.y.h.kc,e.kids,by rw [hkn],szK e,kids_at e w0 h3,⟨l++[e.y],h1,?_,?_⟩,Nat.le_refl _,rfl⟩
  ·rw [List.map_append,flatsB_append,kids_fst e w0 h3,← h2]; simp
  ·intro z hz
   rcases List.mem_append.1 hz with hz | hz
   ·exact kids_good e w0 h3 z hz
   ·exact h4 z hz
 ·rintro x w' ⟨rfl,g,l,h1,h2,_⟩
  simp only [List.map_nil,flatsB,List.append_nil] at h2
  exact ⟨rfl,g,by rw [← h2]; exact h1⟩
end Go.Proofs.YtmpmfamiegpmgaaGreatDoor

namespace Go.Proofs
open Go.Shelf
def Tryz.lays189_ren:Go.Shelf.Ren:=⟨fun | 189=>67 | 125=>104 | 257=>103 | 128=>150 | 129=>151 | 294=>141 | 295=>142 | 296=>143 | 297=>144 | 298=>145 | 299=>146 | 216=>147 | 300=>148 | 301=>149 | 328=>193 | 329=>194 | 330=>195 | 331=>196 | 332=>197 | 215=>198 | 343=>253 | n=>n,fun | 28=>23 | 3=>3 | 46=>175 | 0=>0 | 51=>224 | 53=>226 | 4=>4 | 183=>218 | 182=>217 | 131=>71 | 5=>5 | 9=>9 | 218=>243 | 222=>247 | 228=>268 | 229=>155 | n=>n,fun | n=>n⟩
theorem Tryz.lays189:Go.Proofs.Lays.n189 Tryz.prog Tryz.lays189_ren:={
 mixed:=by kernel_rfl
 f125:=Tryz.func104.trans (congrArg some (by kernel_rfl))
 f128:=Tryz.func150.trans (congrArg some (by kernel_rfl))
 f129:=Tryz.func151.trans (congrArg some (by kernel_rfl))
 f189:=Tryz.func67.trans (congrArg some (by kernel_rfl))
 f215:=Tryz.func198.trans (congrArg some (by kernel_rfl))
 f216:=Tryz.func147.trans (congrArg some (by kernel_rfl))
 f257:=Tryz.func103.trans (congrArg some (by kernel_rfl))
 f294:=Tryz.func141.trans (congrArg some (by kernel_rfl))
 f295:=Tryz.func142.trans (congrArg some (by kernel_rfl))
 f296:=Tryz.func143.trans (congrArg some (by kernel_rfl))
 f297:=Tryz.func144.trans (congrArg some (by kernel_rfl))
 f298:=Tryz.func145.trans (congrArg some (by kernel_rfl))
 f299:=Tryz.func146.trans (congrArg some (by kernel_rfl))
 f300:=Tryz.func148.trans (congrArg some (by kernel_rfl))
 f301:=Tryz.func149.trans (congrArg some (by kernel_rfl))
 f328:=Tryz.func193.trans (congrArg some (by kernel_rfl))
 f329:=Tryz.func194.trans (congrArg some (by kernel_rfl))
 f330:=Tryz.func195.trans (congrArg some (by kernel_rfl))
 f331:=Tryz.func196.trans (congrArg some (by kernel_rfl))
 f332:=Tryz.func197.trans (congrArg some (by kernel_rfl))
 f343:=Tryz.func253.trans (congrArg some (by kernel_rfl))
 t0:=Tryz.underlying0
 a0:=Tryz.isAgg0
 z0:=Tryz.sizeOf0
 v0:=Tryz.zeroValue0
 t3:=Tryz.underlying3
 a3:=Tryz.isAgg3
 z3:=Tryz.sizeOf3
 v3:=Tryz.zeroValue3
 t4:=Tryz.underlying4
 a4:=Tryz.isAgg4
 z4:=Tryz.sizeOf4
 v4:=Tryz.zeroValue4
 t5:=Tryz.underlying5
 a5:=Tryz.isAgg5
 z5:=Tryz.sizeOf5
 v5:=Tryz.zeroValue5
 t9:=Tryz.underlying9
 a9:=Tryz.isAgg9
 z9:=Tryz.sizeOf9
 v9:=Tryz.zeroValue9
 t28:=Tryz.underlying23
 a28:=Tryz.isAgg23
 z28:=Tryz.sizeOf23
 v28:=Tryz.zeroValue23
 t46:=Tryz.underlying175
 a46:=Tryz.isAgg175
 z46:=Tryz.sizeOf175
 v46:=Tryz.zeroValue175
 t51:=Tryz.underlying224
 a51:=Tryz.isAgg224
 z51:=Tryz.sizeOf224
 v51:=Tryz.zeroValue224
 t53:=Tryz.underlying226
 a53:=Tryz.isAgg226
 z53:=Tryz.sizeOf226
 v53:=Tryz.zeroValue226
 t131:=Tryz.underlying71
 a131:=Tryz.isAgg71
 z131:=Tryz.sizeOf71
 v131:=Tryz.zeroValue71
 t182:=Tryz.underlying217
 a182:=Tryz.isAgg217
 z182:=Tryz.sizeOf217
 v182:=Tryz.zeroValue217
 t183:=Tryz.underlying218
 a183:=Tryz.isAgg218
 z183:=Tryz.sizeOf218
 v183:=Tryz.zeroValue218
 t218:=Tryz.underlying243
 a218:=Tryz.isAgg243
 z218:=Tryz.sizeOf243
 v218:=Tryz.zeroValue243
 t222:=Tryz.underlying247
 a222:=Tryz.isAgg247
 z222:=Tryz.sizeOf247
 v222:=Tryz.zeroValue247
 t228:=Tryz.underlying268
 a228:=Tryz.isAgg268
 z228:=Tryz.sizeOf268
 v228:=Tryz.zeroValue268
 t229:=Tryz.underlying155
 a229:=Tryz.isAgg155
 z229:=Tryz.sizeOf155
 v229:=Tryz.zeroValue155 }
open Go.Sort Go.RowKit in
theorem Tryz.slices_Sort_int (blk off cap:Nat) (zs:List Int) (w:World) (hH:Holds (Value.int .i64) w blk off zs.toArray) (hblk:blk < w.heap.size) (hsz:zs.length < 4611686018427387904) :
  Calls Tryz.prog 67 #[.slice (some ⟨blk,off,none⟩) zs.length cap] w fun e w' =>
   e=.returned (.tuple #[])∧∃ n os,w'=grow (putRow (Value.int .i64) (Sort.ahead w n) blk off (zs.mergeSort fun x y=>decide (x≤y)).toArray) os:=Any.slices_Sort_int Tryz.lays189 blk off cap zs w hH hblk hsz
end Go.Proofs

namespace Go.Proofs
open Go.Shelf
def Tryz.laysNm220_ren:Go.Shelf.Ren:=⟨fun | 20=>68 | n=>n,fun | 22=>23 | 3=>3 | 4=>4 | 0=>0 | n=>n,fun | n=>n⟩
theorem Tryz.laysNm220:Go.Proofs.Lays2.n20 Tryz.prog Tryz.laysNm220_ren:={
 mixed:=by kernel_rfl
 f20:=Tryz.func68.trans (congrArg some (by kernel_rfl))
 t0:=Tryz.underlying0
 a0:=Tryz.isAgg0
 z0:=Tryz.sizeOf0
 v0:=Tryz.zeroValue0
 t3:=Tryz.underlying3
 a3:=Tryz.isAgg3
 z3:=Tryz.sizeOf3
 v3:=Tryz.zeroValue3
 t4:=Tryz.underlying4
 a4:=Tryz.isAgg4
 z4:=Tryz.sizeOf4
 v4:=Tryz.zeroValue4
 t22:=Tryz.underlying23
 a22:=Tryz.isAgg23
 z22:=Tryz.sizeOf23
 v22:=Tryz.zeroValue23
 i3:=by kernel_rfl }
open Go.RowKit Go.Lib Go.Sort in
/-- slices.Compact at []int: "Compact replaces consecutive runs of equal elements with a single copy. This is like the uniq command found on Unix. Compact modifies the contents of the slice s and returns the modified slice, which may have a smaller length. Compact zeroes the elements between the new length and the original length. The result preserves the nilness of s.": IT RETURNS THE SLICE CUT TO 'Lib.compact zs'; ITS CELLS HOLD 'Lib.compact zs', THEN ZERO VALUES up to the old length; all else is as it was, but for the count of draws. IN THE WORDS OF slices.Sort's CONTRACT ('Holds', 'putRow'): so the everyday 'slices.Sort(xs); xs = slices.Compact(xs)' goes from the one contract to the other. It asks 'zs.length ≤ cap' (every slice's: the reslicing 's[:k]' looks at it). Length 0, nil: '.._empty'. (LAID: no walk: one application.) -/
theorem Tryz.slices_Compact_int (blk off cap:Nat) (zs:List Int) (w:World) (hH:Holds (Value.int .i64) w blk off zs.toArray) (hsz:zs.length≤9223372036854775807) (hcap:zs.length≤cap) :
  Calls Tryz.prog 68 #[.slice (some ⟨blk,off,none⟩) zs.length cap] w fun e w'=>e=.returned (.slice (some ⟨blk,off,none⟩) (Lib.compact zs).length cap)∧∃ q,w'=putRow (Value.int .i64) (Sort.ahead w q) blk off (Lib.compact zs++List.replicate (zs.length - (Lib.compact zs).length) 0).toArray:=Any.slices_Compact_int Tryz.laysNm220 blk off cap zs w hH hsz hcap
end Go.Proofs
