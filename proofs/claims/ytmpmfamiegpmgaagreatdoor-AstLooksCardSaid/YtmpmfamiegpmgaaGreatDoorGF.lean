/-
  Branches as they lie in memory at this seat.; walk: hands on what hangs below a thing, each ahead of its kids, for any function that takes them.; walk over nodes: hands on what hangs below a node, each ahead of its kids, for any function that takes them.; Where tokens stand; a branch's kids.
-/
import Derived.Test.YtmpmfamiegpmgaaGreatDoorGE
namespace Go.Proofs.YtmpmfamiegpmgaaGreatDoor
open Tryz
open Go.Lib (hid)
open Go.RowKit
set_option maxRecDepth 20000
set_option linter.unusedVariables false
set_option linter.unusedSimpArgs false
structure Hd where
 k:Int
 m:Int
 f:Int
 t:Int
 np:Option Addr
 nn:Nat
 nc:Nat
 ns:List Int
 kp:Option Addr
 kn:Nat
 kc:Nat
inductive Br where
 | mk (h:Hd) (ks:List Br)
def Br.h:Br→Hd | .mk h _=>h
def Br.ks:Br→List Br | .mk _ ks=>ks
theorem Br.ind {P:Br→Prop} (hP:∀ h ks,(∀ b ∈ ks,P b)→P (.mk h ks)):∀ b,P b:=fun b =>
 Br.rec (motive_1:=P) (motive_2:=fun ks=>∀ b ∈ ks,P b) (fun h ks ih=>hP h ks ih) (fun b hb=>by cases hb)
  (fun x r hx hr b hb=>by
   rcases List.mem_cons.1 hb with rfl | hb
   ·exact hx
   ·exact hr b hb) b
def AtV {α:Type} (mk:α→Value) (w:World) (b off:Nat) (l:List α):Prop :=
 ∀ i,(h:i < l.length)→w.cell? ⟨b,off+i,none⟩=some (mk l[i])
def InV {α:Type} (mk:α→Value) (w:World) (p:Option Addr) (n cap:Nat) (l:List α):Prop :=
 n=l.length∧(n=0∨∃ b off,p=some ⟨b,off,none⟩∧n≤cap∧b < w.heap.size∧AtV mk w b off l)
abbrev mkI:Int→Value:=fun x=>.int .i64 x
theorem AtV.step {α:Type} {mk:α→Value} {w w1:World} {b off:Nat} {l:List α} (h:AtV mk w b off l) (hb:b < w.heap.size) (hw:Below w.heap.size w w1):AtV mk w1 b off l :=
 fun i hi=>(hw.cell (p:=⟨b,_,none⟩) hb).trans (h i hi)
theorem InV.step {α:Type} {mk:α→Value} {w w1:World} {p:Option Addr} {n cap:Nat} {l:List α} (h:InV mk w p n cap l) (hw:Below w.heap.size w w1):InV mk w1 p n cap l:=by
 obtain ⟨hn,h0 | ⟨b,off,hp,hc,hb,hat⟩⟩:=h
 ·exact ⟨hn,.inl h0⟩
 ·exact ⟨hn,.inr ⟨b,off,hp,hc,Nat.lt_of_lt_of_le hb hw.size,hat.step hb hw⟩⟩
theorem xJ {α:Type} {mk:α→Value} {w:World} {base E n:Nat} {v:Value} {l:List α} (h:w.ownsRow base E 1 v n (l.map mk)) (hn:n=l.length) :
  ∃ p c,v=.slice p n c∧InV mk w p n c l:=by
 subst hn
 rcases h.2 with ⟨rfl,h1⟩ | ⟨g,c,cur,rfl,hg,hh,hle,hm,hsz,ht⟩
 ·exact ⟨none,0,by rw [h1],rfl,.inl h1⟩
 ·refine ⟨_,c,rfl,rfl,.inr ⟨g,0,rfl,hle,(Array.getElem?_eq_some_iff.1 hh).1,fun i hi=>?_⟩⟩
  have:=World.ownsRow.cells h (g:=g) rfl i (mk l[i]) (by simp [hi])
  have ha:((⟨g,0,none⟩:Addr).add i)=⟨g,0+i,none⟩:=by unfold Addr.add; split <;> simp_all
  rw [ha] at this;exact this
def bP (w:World) (b o:Nat) (h:Hd):Prop :=
 w.cell? ⟨b,o,none⟩=some (.int .i64 h.k)∧w.cell? ⟨b,o+1,none⟩=some (.int .i64 h.m)∧w.cell? ⟨b,o+2,none⟩=some (.int .i64 h.f) ∧
 w.cell? ⟨b,o+3,none⟩=some (.int .i64 h.t)∧w.cell? ⟨b,o+4,none⟩=some (.slice h.np h.nn h.nc)∧w.cell? ⟨b,o+5,none⟩=some (.slice h.kp h.kn h.kc)
abbrev Hd.val (h:Hd):Value:=.agg #[.int .i64 h.k,.int .i64 h.m,.int .i64 h.f,.int .i64 h.t,.slice h.np h.nn h.nc,.slice h.kp h.kn h.kc]
def Nw (w:World) (b off:Nat) (ks:List Br):Prop:=∀ i,(h:i < ks.length)→bP w b (off+i * 6) ks[i].h
def lF (w:World) (p:Option Addr) (n cap:Nat) (ks:List Br):Prop :=
 n=ks.length∧(n=0∨∃ b off,p=some ⟨b,off,none⟩∧n≤cap∧b < w.heap.size∧Nw w b off ks)
mutual
def Br.Lies (w:World):Br→Prop
 | .mk h ks=>InV mkI w h.np h.nn h.nc h.ns∧lF w h.kp h.kn h.kc ks∧og w ks
def og (w:World):List Br→Prop
 | []=>True
 | b :: r=>b.Lies w∧og w r
end
theorem Eh (w:World) (ks:List Br):og w ks ↔ ∀ b ∈ ks,b.Lies w:=by
 induction ks with
 | nil=>simp [og]
 | cons x r ih=>simp [og,ih]
theorem aO (w:World) (b:Br):b.Lies w ↔ InV mkI w b.h.np b.h.nn b.h.nc b.h.ns∧lF w b.h.kp b.h.kn b.h.kc b.ks∧∀ x ∈ b.ks,x.Lies w:=by
 cases b; simp only [Br.Lies,Br.h,Br.ks,Eh]
theorem bP.step {w w1:World} {b o:Nat} {h:Hd} (hat:bP w b o h) (hb:b < w.heap.size) (hw:Below w.heap.size w w1):bP w1 b o h:=by
 obtain ⟨h0,h1,h2,h3,h4,h5⟩:=hat
 exact ⟨(hw.cell (p:=⟨b,_,none⟩) hb).trans h0,(hw.cell (p:=⟨b,_,none⟩) hb).trans h1,(hw.cell (p:=⟨b,_,none⟩) hb).trans h2,(hw.cell (p:=⟨b,_,none⟩) hb).trans h3,(hw.cell (p:=⟨b,_,none⟩) hb).trans h4,(hw.cell (p:=⟨b,_,none⟩) hb).trans h5⟩
theorem lF.step {w w1:World} {p:Option Addr} {n cap:Nat} {ks:List Br} (h:lF w p n cap ks) (hw:Below w.heap.size w w1):lF w1 p n cap ks:=by
 obtain ⟨hn,h0 | ⟨b,off,hp,hc,hb,hat⟩⟩:=h
 ·exact ⟨hn,.inl h0⟩
 ·exact ⟨hn,.inr ⟨b,off,hp,hc,Nat.lt_of_lt_of_le hb hw.size,fun i hi=>(hat i hi).step hb hw⟩⟩
theorem Br.Lies.step {w w1:World} (b:Br) (hl:b.Lies w) (hw:Below w.heap.size w w1):b.Lies w1:=by
 induction b using Br.ind with
 | hP h ks ih =>
  rw [aO] at hl ⊢;exact ⟨hl.1.step hw,hl.2.1.step hw,fun x hx=>ih x hx (hl.2.2 x hx)⟩
theorem dP {w:World} {base E size n:Nat} {v:Value} {xs:List Value} (h:w.ownsRow base E size v n xs):∃ p c,v=.slice p n c:=by
 rcases h.2 with ⟨rfl,h0⟩ | ⟨g,c,cur,rfl,_⟩
 ·exact ⟨none,0,by rw [h0]⟩
 ·exact ⟨_,c,rfl⟩
theorem iJ {w:World} {base E size n:Nat} {v:Value} {xs:List Value} (h:w.ownsRow base E size v n xs) (hn:0 < n):∃ g c,v=.slice (some ⟨g,0,none⟩) n c∧base≤g∧g < w.heap.size∧n≤c∧c≤maxLen:=by
 rcases h.2 with ⟨_,h0⟩ | ⟨g,c,cur,rfl,hg,hh,hle,hm,_⟩
 ·omega
 ·exact ⟨g,c,rfl,hg,(Array.getElem?_eq_some_iff.1 hh).1,hle,hm⟩
theorem vK {w:World} {base E size n c g:Nat} {xs:List Value} (h:w.ownsRow base E size (.slice (some ⟨g,0,none⟩) n c) n xs):∀ j u,xs[j]?=some u→w.cell? ((⟨g,0,none⟩:Addr).add j)=some u:=fun j u hj=>World.ownsRow.cells h (g:=g) rfl j u hj
theorem fQ {w:World} {base E size n g c:Nat} {xs:List Value} (h:w.ownsRow base E size (.slice (some ⟨g,0,none⟩) n c) n xs) (j:Nat) (u:Value) (hj:xs[j]?=some u):w.cell? ⟨g,j,none⟩=some u:=by
 have:=vK h j u hj
 have ha:((⟨g,0,none⟩:Addr).add j)=⟨g,j,none⟩:=by unfold Addr.add; split <;> simp_all
 rwa [ha] at this
theorem in_kept {w w1:World} {p:Option Addr} {n c:Nat} {l:List Int} (h:InV mkI w p n c l) (hs:w.heap.size≤w1.heap.size) (hk:∀ a,n≠0→p=some a→w1.heap[a.block]?=w.heap[a.block]?):InV mkI w1 p n c l:=by
 obtain ⟨hn,h0 | ⟨b,off,rfl,hc,hb,hat⟩⟩:=h
 ·exact ⟨hn,.inl h0⟩
 ·by_cases hn0:n=0
  ·exact ⟨hn,.inl hn0⟩
  ·refine ⟨hn,.inr ⟨b,off,rfl,hc,by omega,fun i hi=>?_⟩⟩
   have:=hat i hi
   have e:=hk _ hn0 rfl;rw [← this];simp only [World.cell?] at e ⊢;rw [e]
mutual
def Br.On (P:Nat→Prop):Br→Prop
 | .mk h ks=>(∀ a,h.nn≠0→h.np=some a→P a.block)∧(∀ a,h.kn≠0→h.kp=some a→P a.block)∧Bz P ks
def Bz (P:Nat→Prop):List Br→Prop
 | []=>True
 | b :: r=>b.On P∧Bz P r
end
theorem Hq (P:Nat→Prop) (ks:List Br):Bz P ks ↔ ∀ b ∈ ks,b.On P:=by
 induction ks with
 | nil=>simp [Bz]
 | cons x r ih=>simp [Bz,ih]
theorem iO (P:Nat→Prop) (b:Br):b.On P ↔ (∀ a,b.h.nn≠0→b.h.np=some a→P a.block)∧(∀ a,b.h.kn≠0→b.h.kp=some a→P a.block)∧∀ x ∈ b.ks,x.On P:=by
 cases b; simp only [Br.On,Br.h,Br.ks,Hq]
theorem Br.On.mono {P Q:Nat→Prop} (h:∀ k,P k→Q k) (b:Br):b.On P→b.On Q:=by
 induction b using Br.ind with
 | hP hd ks ih =>
  intro hb;rw [iO] at hb ⊢;exact ⟨fun a h1 h2=>h _ (hb.1 a h1 h2),fun a h1 h2=>h _ (hb.2.1 a h1 h2),fun x hx=>ih x hx (hb.2.2 x hx)⟩
theorem Du {w:World} {p:Option Addr} {n c:Nat} {l:List Int} (h:InV mkI w p n c l) (a:Addr) (hn:n≠0) (hp:p=some a):a.block < w.heap.size:=by
 obtain ⟨_,h0 | ⟨b,off,hp',_,hb,_⟩⟩:=h
 ·exact absurd h0 hn
 ·rw [hp'] at hp
  obtain rfl:=Option.some.inj hp;exact hb
theorem vT {w:World} {p:Option Addr} {n c:Nat} {l:List Br} (h:lF w p n c l) (a:Addr) (hn:n≠0) (hp:p=some a):a.block < w.heap.size:=by
 obtain ⟨_,h0 | ⟨b,off,hp',_,hb,_⟩⟩:=h
 ·exact absurd h0 hn
 ·rw [hp'] at hp
  obtain rfl:=Option.some.inj hp;exact hb
theorem Br.On.low {P:Nat→Prop} {w:World} (b:Br):b.On P→b.Lies w→b.On fun k=>P k∧k < w.heap.size:=by
 induction b using Br.ind with
 | hP hd ks ih =>
  intro hb hl;rw [iO] at hb ⊢;rw [aO] at hl;exact ⟨fun a h1 h2=>⟨hb.1 a h1 h2,Du hl.1 a h1 h2⟩,fun a h1 h2=>⟨hb.2.1 a h1 h2,vT hl.2.1 a h1 h2⟩,fun x hx=>ih x hx (hb.2.2 x hx) (hl.2.2 x hx)⟩
theorem Jo {w w1:World} {p:Option Addr} {n c:Nat} {l:List Br} (h:lF w p n c l) (hs:w.heap.size≤w1.heap.size) (hk:∀ a,n≠0→p=some a→w1.heap[a.block]?=w.heap[a.block]?):lF w1 p n c l:=by
 obtain ⟨hn,h0 | ⟨b,off,rfl,hc,hb,hat⟩⟩:=h
 ·exact ⟨hn,.inl h0⟩
 ·by_cases hn0:n=0
  ·exact ⟨hn,.inl hn0⟩
  ·have e:=hk _ hn0 rfl
   have ec:∀ o,w1.cell? ⟨b,o,none⟩=w.cell? ⟨b,o,none⟩:=fun o=>World.cell?_of_block e
   refine ⟨hn,.inr ⟨b,off,rfl,hc,by omega,fun i hi=>?_⟩⟩
   have:=hat i hi
   simp only [bP,ec] at this ⊢;exact this
theorem Br.Lies.kept {P:Nat→Prop} {w w1:World} (b:Br) (hs:w.heap.size≤w1.heap.size) (hk:∀ k,P k→k < w.heap.size→w1.heap[k]?=w.heap[k]?):b.On P→b.Lies w→b.Lies w1:=by
 induction b using Br.ind with
 | hP hd ks ih =>
  intro hb hl;rw [iO] at hb;rw [aO] at hl ⊢;refine ⟨in_kept hl.1 hs fun a h1 h2=>hk _ (hb.1 a h1 h2) (Du hl.1 a h1 h2),Jo hl.2.1 hs fun a h1 h2=>hk _ (hb.2.1 a h1 h2) (vT hl.2.1 a h1 h2),fun x hx=>ih x hx (hb.2.2 x hx) (hl.2.2 x hx)⟩
def hcells (h:Hd):List Value:=[.int .i64 h.k,.int .i64 h.m,.int .i64 h.f,.int .i64 h.t,.slice h.np h.nn h.nc,.slice h.kp h.kn h.kc]
def bg:List Br→List Value
 | []=>[]
 | b :: r=>hcells b.h++bg r
theorem ji (a b:List Br):bg (a++b)=bg a++bg b:=by
 induction a with
 | nil=>rfl
 | cons x r ih=>simp [bg,ih]
theorem lG (l:List Br):(bg l).length=l.length * 6:=by
 induction l with
 | nil=>rfl
 | cons x r ih=>simp [bg,hcells,ih]; omega
theorem IU (l:List Br) (i j:Nat) (h:i < l.length) (hj:j < 6):(bg l)[i * 6+j]?=(hcells l[i].h)[j]?:=by
 induction l generalizing i with
 | nil=>simp at h
 | cons x r ih =>
  have hx:(hcells x.h).length=6:=rfl
  cases i with
  | zero =>
   simp only [bg,Nat.zero_mul,Nat.zero_add,List.getElem_cons_zero];rw [List.getElem?_append_left (by omega)]
  | succ i =>
   simp only [bg,List.getElem_cons_succ];rw [List.getElem?_append_right (by omega),hx,show (i+1) * 6+j - 6=i * 6+j by omega];exact ih i (by simpa using h)
theorem AV {w:World} {base n:Nat} {v:Value} {l:List Br} (h:w.ownsRow base 96 6 v n (bg l)) (hn:n=l.length):∃ p c,v=.slice p n c∧lF w p n c l:=by
 subst hn
 rcases Nat.eq_zero_or_pos l.length with h0 | h0
 ·obtain ⟨p,c,rfl⟩:=dP h
  exact ⟨p,c,rfl,rfl,.inl h0⟩
 ·obtain ⟨g,c,rfl,_,hg,hc,_⟩:=iJ h h0
  refine ⟨_,c,rfl,rfl,.inr ⟨g,0,rfl,hc,hg,fun i hi=>?_⟩⟩
  have hc:=fun j (hj:j < 6) u (hu:(hcells l[i].h)[j]?=some u)=>fQ h (i * 6+j) u (by rw [IU l i j hi hj,hu])
  simp only [bP,Nat.zero_add];exact ⟨hc 0 (by omega) _ rfl,hc 1 (by omega) _ rfl,hc 2 (by omega) _ rfl,hc 3 (by omega) _ rfl,hc 4 (by omega) _ rfl,hc 5 (by omega) _ rfl⟩
theorem qc (h:Hd):∀ u ∈ hcells h,u.oneCell'=true:=by
 intro u hu;simp only [hcells,List.mem_cons,List.not_mem_nil,or_false] at hu
 rcases hu with rfl | rfl | rfl | rfl | rfl | rfl <;> rfl
mutual
def Br.pb:Br→Pb
 | .mk h ks=>.mk h.k h.m h.f h.t h.ns (pbs ks)
def pbs:List Br→List Pb
 | []=>[]
 | b :: r=>b.pb :: pbs r
end
theorem eF (ks:List Br):pbs ks=ks.map Br.pb:=by
 induction ks with
 | nil=>rfl
 | cons x r ih=>simp only [pbs,List.map_cons,ih]
def RB (w0:World):Pb→Value→World→Prop:=fun b v w'=>∃ y:Br,v=y.h.val∧y.Lies w'∧(y.On fun q=>w0.heap.size≤q)∧y.pb=b
set_option maxHeartbeats 400000 in
theorem az (S:Src) (n d:Nat) (k f:Int) (np:Option Addr) (nn nc:Nat) (kp:Option Addr) (kn kc:Nat) (w:World) (h:Rd w S n d) :
  Calls prog 121 #[.pointer (some ⟨S.g,0,none⟩),.int .i64 k,.int .i64 f,.slice np nn nc,.slice kp kn kc] w fun e w'=>e=.returned (.agg #[.int .i64 k,.int .i64 0,.int .i64 f,.int .i64 (n:Int),.slice np nn nc,.slice kp kn kc])∧Below w.heap.size w w':=by
 have h1:=h.step ((Below.refl w.heap.size w).alloc (Nat.le_refl _) (.cells #[.int .i64 0,.int .i64 0,.int .i64 0,.int .i64 0,.slice none 0 0,.slice none 0 0] 96));have c2:=h1.c2;clear h h1
 go_enter func121,ntmps121
 go_wp2_with fail
 go_returns
 exact ⟨rfl,by go_grown⟩
theorem nU (m k m0 f t:Int) (np:Option Addr) (nn nc:Nat) (kp:Option Addr) (kn kc:Nat) (w:World) :
  Calls prog 281 #[.int .i64 m,.agg #[.int .i64 k,.int .i64 m0,.int .i64 f,.int .i64 t,.slice np nn nc,.slice kp kn kc]] w fun e w'=>e=.returned (.agg #[.int .i64 k,.int .i64 m,.int .i64 f,.int .i64 t,.slice np nn nc,.slice kp kn kc])∧Below w.heap.size w w':=by
 go_enter func281,ntmps281
 go_wp2_with fail
 go_returns
 exact ⟨rfl,by go_grown⟩
theorem kX {w:World} {x:Value} {t:TypeId}:∀ j u,([x]:List Value)[j]?=some u→(w.alloc (.cells #[x] t)).cell? ((⟨w.heap.size,0,none⟩:Addr).add j)=some u:=World.news_of_block (heap_alloc_new w (.cells #[x] t))
theorem kW {w:World} {base E n g c:Nat} {xs:List Value} {x:Value} (h:w.ownsRow base E 1 (.slice (some ⟨g,0,none⟩) (n+1) c) (n+1) (xs++[x])):w.ownsRow base E 1 (.slice (some ⟨g,0,none⟩) n c) n xs:=by
 obtain ⟨hl,⟨h0,_⟩ | ⟨g',c',cur,hv,hb,hh,hle,hm,hs,ht⟩⟩:=h
 ·cases h0
 ·simp only [Value.slice.injEq,Option.some.injEq,Addr.mk.injEq,and_true,true_and] at hv
  obtain ⟨rfl,rfl⟩:=hv;have hxl:xs.length=n:=by simp at hl; omega
  refine ⟨by omega,.inr ⟨g,c,cur,rfl,hb,hh,by omega,hm,hs,?_⟩⟩
  have:cur.toList.take n=(cur.toList.take (n+1)).take n:=by rw [List.take_take]; congr 1; omega
  rw [Nat.mul_one,this];rw [Nat.mul_one] at ht;rw [ht,← hxl]; simp
theorem uk {w:World} {base E size n g c:Nat} {xs:List Value} (h:w.ownsRow base E size (.slice (some ⟨g,0,none⟩) n c) n xs):base≤g∧g < w.heap.size∧n≤c∧c≤maxLen:=by
 obtain ⟨hl,⟨h0,_⟩ | ⟨g',c',cur,hv,hb,hh,hle,hm,hs,ht⟩⟩:=h
 ·cases h0
 ·simp only [Value.slice.injEq,Option.some.injEq,Addr.mk.injEq,and_true,true_and] at hv
  obtain ⟨rfl,rfl⟩:=hv;exact ⟨hb,(Array.getElem?_eq_some_iff.1 hh).1,hle,hm⟩
theorem jC {w w':World} {base E size n g c:Nat} {xs:List Value} (h:w.ownsRow base E size (.slice (some ⟨g,0,none⟩) n c) n xs) (hk:w'.heap[g]?=w.heap[g]?):w'.ownsRow base E size (.slice (some ⟨g,0,none⟩) n c) n xs:=by
 obtain ⟨hl,⟨h0,_⟩ | ⟨g',c',cur,hv,hb,hh,hle,hm,hs,ht⟩⟩:=h
 ·cases h0
 ·simp only [Value.slice.injEq,Option.some.injEq,Addr.mk.injEq,and_true,true_and] at hv
  obtain ⟨rfl,rfl⟩:=hv;exact ⟨hl,.inr ⟨g,c,cur,rfl,hb,hk.trans hh,hle,hm,hs,ht⟩⟩
def ptrs {ε:Type} (ad:ε→Addr) (st:List ε):List Value:=st.reverse.map fun e=>.pointer (some (ad e))
theorem iP {ε:Type} (ad:ε→Addr) (e:ε) (st:List ε):ptrs ad (e :: st)=ptrs ad st++[.pointer (some (ad e))]:=by simp [ptrs]
theorem jw {ε:Type} (ad:ε→Addr) (st:List ε):(ptrs ad st).length=st.length:=by simp [ptrs]
theorem kV {ε:Type} {l:List ε} {i:Nat} {x:ε} (h:l[i]?=some x):l.drop i=x :: l.drop (i+1):=by
 obtain ⟨h1,h2⟩:=List.getElem?_eq_some_iff.1 h;rw [List.drop_eq_getElem_cons h1,h2]
def szs {ε:Type} (sz:ε→Nat):List ε→Nat
 | []=>0
 | e :: r=>sz e+szs sz r
theorem ng {ε:Type} (sz:ε→Nat) (a b:List ε):szs sz (a++b)=szs sz a+szs sz b:=by
 induction a with
 | nil=>simp [szs]
 | cons x r ih=>simp only [List.cons_append,szs,ih]; omega
theorem tY {ε:Type} (sz:ε→Nat) (h:∀ e,1≤sz e) (l:List ε):l.length≤szs sz l:=by
 induction l with
 | nil=>simp
 | cons x r ih=>have:=h x; simp only [List.length_cons,szs]; omega
set_option maxHeartbeats 4000000 in
theorem Jh {ε:Type} (ad:ε→Addr) (sz:ε→Nat) (hsz:∀ e,1≤sz e) (I:List ε→Nat→World→Prop) (J:ε→List ε→Nat→World→Prop)
  (stab:∀ st g w w' g',I st g w→w.grownBy w' (some g)→(g'=g∨w.heap.size≤g')→I st g' w')
  (fk fw:Nat) (ck cw:Array Value) (hck:∀ args w,Sem.run prog (callFunc fk args) w=.ok (.enter fk args) w) (hcw:∀ args w,Sem.run prog (callFunc fw args) w=.ok (.enter fw args) w)
  (HW:∀ e st g w,I (e :: st) g w→g < w.heap.size→Calls prog fw (#[.pointer (some (ad e))]++cw) w fun x w'=>x=.returned (.bool true)∧J e st g w'∧w.heap.size≤w'.heap.size∧w'.heap[g]?=w.heap[g]?)
  (HK:∀ e st g w,J e st g w→g < w.heap.size→Calls prog fk (#[.pointer (some (ad e))]++ck) w fun x w'=>∃ p c,∃ kl:List ε,x=.returned (.slice p kl.length c)∧szs sz kl+1≤sz e ∧
   (kl.length=0∨∃ b off,p=some ⟨b,off,none⟩∧kl.length≤c∧∀ i e',kl[i]?=some e'→ad e'=⟨b,off+i * 6,none⟩)∧I (kl++st) g w'∧w.heap.size≤w'.heap.size∧w'.heap[g]?=w.heap[g]?)
  (e0:ε) (w:World) (hM:sz e0≤10000000) (h0:∀ w',Below w.heap.size w w'→I [e0] w.heap.size w') :
  Calls prog 125 #[.pointer (some (ad e0)),.func (.func fk) #[] ck,.func (.func fw) #[] cw] w fun x w'=>x=.returned (.bool true)∧∃ g,I [] g w':=by
 have Uo:=hid HW;have Ur:=hid HK;have HST:=hid stab;have HLEN:Hid (∀ l:List ε,l.length≤szs sz l):=hid fun l=>tY sz hsz l
 have hI0:=hid (h0 (w.alloc (.cells #[.pointer (some (ad e0))] 145)) ((Below.refl _ _).alloc (Nat.le_refl _) _));have Oo:Hid ((w.alloc (.cells #[.pointer (some (ad e0))] 145)).ownsRow w.heap.size 145 1 (.slice (some ⟨w.heap.size,0,none⟩) 1 1) 1 (ptrs ad [e0])):=hid (dB (heap_alloc_new w _) (Nat.le_refl _) rfl (by unfold maxLen; omega));have hz0:w.heap.size≤(w.alloc (.cells #[.pointer (some (ad e0))] 145)).heap.size:=by simp
 have infoP:(prog.info? 145).map (fun i=>(i.zero,i.size,i.bytes))=some (some (.pointer none),1,8):=by kernel_rfl
 obtain ⟨i0,hi0,hy0,hy1,hy2⟩:=info_parts infoP;clear HW HK stab hsz h0 infoP;obtain ⟨N,hN⟩:∃ N,N=w.heap.size:=⟨_,rfl⟩
 have hS0:Hid (szs sz [e0]≤10000000):=hid (by simp [szs]; exact hM);clear hM
 go_enter func125,ntmps125
 go_wp2_with fail
 go_loopg [7] 10000000 (fun gk v7 wr=>∃ (st:List ε) (g c d:Nat),v7=.slice (some ⟨g,0,none⟩) d c∧Hid (st.length=d)∧Hid (szs sz st≤gk)∧Hid (I st g wr)∧gk≤10000000∧d≤gk∧Hid (wr.ownsRow w.heap.size 145 1 (.slice (some ⟨g,0,none⟩) d c) d (ptrs ad st))∧w.heap.size≤wr.heap.size)
 case atStart=>exact ⟨[e0],w.heap.size,1,1,rfl,hid rfl,hS0,hI0,by omega,by omega,Oo,hz0⟩
 case round =>
  obtain ⟨st,g,c,d,rfl,HD,HS,HI,hgk,hdk,HO,zZ⟩:=hrel;have hO:=HO.out;obtain ⟨hgb,hgl,hdc,hcm⟩:=uk hO
  cases d with
  | zero =>
   have hst:st=[]:=List.length_eq_zero_iff.1 HD.out;subst hst;clear hO
   go_wp2_with fail
   go_ret
   exact ⟨rfl,g,HI.out⟩
  | succ d =>
   obtain ⟨e,st',rfl⟩:∃ e r,st=e :: r:=by
    cases st with
    | nil=>have:=HD.out; cases this
    | cons e r=>exact ⟨e,r,rfl⟩
   have hd:st'.length=d:=by have:=HD.out; simpa using this
   rw [iP] at hO;have c0:wr.cell? ⟨g,d,none⟩=some (.pointer (some (ad e))):=fQ hO d _ (by rw [List.getElem?_append_right (by rw [jw]; omega),jw,hd,Nat.sub_self]; rfl);have mr:=hid (kW hO);have hsub:IntKind.i64.wrap (((d+1:Nat):Int) - 1)=(d:Int):=by rw [show ((d+1:Nat):Int) - 1=(d:Int) by omega]; exact IntWalk.i64_in _ (by omega)
   have hsub2:IntKind.i64.wrap ((d:Int)+1 - 1)=(d:Int):=by rw [show (d:Int)+1 - 1=(d:Int) by omega]; exact IntWalk.i64_in _ (by omega)
   have Gg:=hid hd;have HC:=hid (Uo.out e st' g wr HI.out hgl);have hpos:(0:Int) < ((d+1:Nat):Int):=by omega
   have hlt2:(d:Int) < ((d+1:Nat):Int):=by omega
   have hnn:(0:Int)≤(d:Int):=by omega
   have hle2:(d:Int)≤(c:Int):=by omega
   clear hO hd
   go_wp2_with fail
   refine HC.out.mono ?_
   rintro x w1 ⟨rfl,hj,hz1,hk1⟩;have HJ:=hid (Ur.out e st' g w1 hj (by omega));have wF:=hid (jC mr.out hk1);clear hj hk1 HC mr c0 HI HO
   go_wp2_with fail
   refine HJ.out.mono ?_
   rintro x w2 ⟨p,cc,kl,rfl,hks,hp,hi2,hz2,hk2⟩;have HI2:=hid hi2;have yB:=hid (jC wF.out hk2);have HP:=hid hp;clear hi2 hk2 hp HJ wF;have hsm:szs sz (e :: st')≤gk:=HS.out;simp only [szs] at hsm;have hkl:=HLEN.out kl;have Ad:=HLEN.out st';rw [Gg.out] at Ad;have HB:Hid (szs sz kl+szs sz st'+1≤gk):=hid (by omega);obtain ⟨n,hn⟩:∃ n,n=kl.length:=⟨_,rfl⟩
   rw [← hn] at HP hkl ⊢;have HN:=hid hn;have hnd:n+d+1≤gk:=by omega
   clear hn hks hsm hkl Ad HS;have JV:IntKind.i64.wrap ((n:Int) - 1)=(n:Int) - 1:=IntWalk.i64_in _ (by omega);have hzz:w.heap.size≤w2.heap.size:=by omega
   obtain ⟨G,hG⟩:∃ G,G=gk:=⟨_,rfl⟩
   subst hG;obtain ⟨wo,hwo⟩:∃ wo,wo=wr:=⟨_,rfl⟩
   subst hwo
   go_wp2_with fail
   go_loopg [7,10] n (fun gk v7 v10 wr=>∃ (gr c2:Nat),v10=.int .i64 ((gk:Int) - 1)∧v7=.slice (some ⟨gr,0,none⟩) (n - gk+d) c2∧gk≤n∧Hid (I (kl++st') gr wr)∧Hid (wr.ownsRow w.heap.size 145 1 (.slice (some ⟨gr,0,none⟩) (n - gk+d) c2) (n - gk+d) (ptrs ad (kl.drop gk++st')))∧w.heap.size≤wr.heap.size)
   case atStart=>exact ⟨g,c,rfl,by simp,Nat.le_refl _,HI2,hid (by have:=yB.out; rw [HN.out,List.drop_length,Nat.sub_self,Nat.zero_add]; exact this),hzz⟩
   case round =>
    obtain ⟨gr,c2,rfl,rfl,hgn,DK,yC,hzi⟩:=hrel
    cases gk with
    | zero =>
     go_wp2_with fail
     go_roundg (G - 1)
     case rel=>exact ⟨kl++st',gr,c2,n+d,by simp,hid (by simp [HN.out,Gg.out]),hid (by rw [ng]; have:=HB.out; omega),DK,by omega,by omega,by simpa using yC,hzi⟩
     case measure=>omega
    | succ gk =>
     have hlt:gk < kl.length:=by rw [← HN.out]; omega
     obtain ⟨b,off,rfl,hnc,had⟩:=HP.out.resolve_left (by omega);have hr1:(0:Int)≤((gk+1:Nat):Int) - 1:=by omega
     have hgi:((gk+1:Nat):Int) - 1=(gk:Int):=by omega
     have hgi':(gk:Int)+1 - 1=(gk:Int):=by omega
     have JW:IntKind.i64.wrap ((gk:Int) - 1)=(gk:Int) - 1:=IntWalk.i64_in _ (by omega);have h00:(0:Int)≤(gk:Int):=by omega
     have h01:(gk:Int) < (n:Int):=by omega
     obtain ⟨q,hq⟩:∃ q,q=n - (gk+1)+d:=⟨_,rfl⟩
     rw [← hq] at yC ⊢;have hqq:n - gk+d=q+1:=by omega
     have hq1:q≤10000000:=by omega
     obtain ⟨kd,hkd⟩:∃ kd,kl[gk]?=some kd:=⟨_,List.getElem?_eq_getElem hlt⟩
     have HAD:=hid (had gk kd hkd);have DL:=hid hkd;have JX:Hid (∀ g' w',wr.grownBy w' (some gr)→(g'=gr∨wr.heap.size≤g')→I (kl++st') g' w'):=hid fun g' w' h1 h2=>HST.out _ _ _ _ _ DK.out h1 h2
     clear had hkd hq hlt DK HP;rw [hgi]
     go_wp2_with (at_builtin; refine wpList_append_lies _ rfl _ _ 236 rfl w.heap.size 145 i0 _ 1 8 underlying236 hi0 hy0 hy1 hy2 rfl (by omega) _ q _ rfl (World.ownsRow.alloc yC.out _) ⟨wr.heap.size,0,none⟩ 1 1 [.pointer (some ⟨b,off+gk * 6,none⟩)] rfl rfl kX (by simp [Value.oneCell']) (by omega) (by unfold maxLen; omega) (by omega) (by simp; omega) (wr.heap.size+1) (by simp) ?_)
     intro g2 c3 w3 hown3 hgrow hgg hlt3;have jS:Hid (w3.ownsRow w.heap.size 145 1 (.slice (some ⟨g2,0,none⟩) (n - gk+d) c3) (n - gk+d) (ptrs ad (kl.drop gk++st'))):=hid (by
      rw [hqq,kV DL.out,List.cons_append,iP,HAD.out]; exact hown3)
     have hgrow2:wr.grownBy w3 (some gr):=ae (grown_below ((Below.refl _ _).alloc (Nat.le_refl _) _) _) hgrow;have Q8:=hid (JX.out g2 w3 hgrow2 (by
      rcases hgg with h | h
      ·left; simpa [Value.ownBlock] using h.symm
      ·right; omega))
     have DN:w.heap.size≤w3.heap.size:=by have:=hgrow2.size; omega
     clear hown3 hgrow hgrow2 hgg JX yC HAD DL;rw [← hqq]
     go_wp2_with fail
     go_roundg gk
     case rel=>exact ⟨g2,c3,rfl,rfl,by omega,Q8,jS,DN⟩
     case measure=>omega
set_option maxHeartbeats 4000000 in
theorem Js {ε:Type} (ad:ε→Addr) (sz:ε→Nat) (hsz:∀ e,1≤sz e) (I:List ε→Nat→World→Prop) (J:ε→List ε→Nat→World→Prop)
  (stab:∀ st g w w' g',I st g w→w.grownBy w' (some g)→(g'=g∨w.heap.size≤g')→I st g' w')
  (fk fw:Nat) (ck cw:Array Value) (hck:∀ args w,Sem.run prog (callFunc fk args) w=.ok (.enter fk args) w) (hcw:∀ args w,Sem.run prog (callFunc fw args) w=.ok (.enter fw args) w)
  (HW:∀ e st g w,I (e :: st) g w→g < w.heap.size→Calls prog fw (#[.pointer (some (ad e))]++cw) w fun x w'=>x=.returned (.bool true)∧J e st g w'∧w.heap.size≤w'.heap.size∧w'.heap[g]?=w.heap[g]?)
  (HK:∀ e st g w,J e st g w→g < w.heap.size→Calls prog fk (#[.pointer (some (ad e))]++ck) w fun x w'=>∃ p c,∃ kl:List ε,x=.returned (.slice p kl.length c)∧szs sz kl+1≤sz e ∧
   (kl.length=0∨∃ b off,p=some ⟨b,off,none⟩∧kl.length≤c∧∀ i e',kl[i]?=some e'→ad e'=⟨b,off+i * 2,none⟩)∧I (kl++st) g w'∧w.heap.size≤w'.heap.size∧w'.heap[g]?=w.heap[g]?)
  (e0:ε) (w:World) (hM:sz e0≤10000000) (h0:∀ w',Below w.heap.size w w'→I [e0] w.heap.size w') :
  Calls prog 85 #[.pointer (some (ad e0)),.func (.func fk) #[] ck,.func (.func fw) #[] cw] w fun x w'=>x=.returned (.bool true)∧∃ g,I [] g w':=by
 have Uo:=hid HW;have Ur:=hid HK;have HST:=hid stab;have HLEN:Hid (∀ l:List ε,l.length≤szs sz l):=hid fun l=>tY sz hsz l
 have hI0:=hid (h0 (w.alloc (.cells #[.pointer (some (ad e0))] 152)) ((Below.refl _ _).alloc (Nat.le_refl _) _));have Oo:Hid ((w.alloc (.cells #[.pointer (some (ad e0))] 152)).ownsRow w.heap.size 152 1 (.slice (some ⟨w.heap.size,0,none⟩) 1 1) 1 (ptrs ad [e0])):=hid (dB (heap_alloc_new w _) (Nat.le_refl _) rfl (by unfold maxLen; omega));have hz0:w.heap.size≤(w.alloc (.cells #[.pointer (some (ad e0))] 152)).heap.size:=by simp
 have infoP:(prog.info? 152).map (fun i=>(i.zero,i.size,i.bytes))=some (some (.pointer none),1,8):=by kernel_rfl
 obtain ⟨i0,hi0,hy0,hy1,hy2⟩:=info_parts infoP;clear HW HK stab hsz h0 infoP;obtain ⟨N,hN⟩:∃ N,N=w.heap.size:=⟨_,rfl⟩
 have hS0:Hid (szs sz [e0]≤10000000):=hid (by simp [szs]; exact hM);clear hM
 go_enter func85,ntmps85
 go_wp2_with fail
 go_loopg [7] 10000000 (fun gk v7 wr=>∃ (st:List ε) (g c d:Nat),v7=.slice (some ⟨g,0,none⟩) d c∧Hid (st.length=d)∧Hid (szs sz st≤gk)∧Hid (I st g wr)∧gk≤10000000∧d≤gk∧Hid (wr.ownsRow w.heap.size 152 1 (.slice (some ⟨g,0,none⟩) d c) d (ptrs ad st))∧w.heap.size≤wr.heap.size)
 case atStart=>exact ⟨[e0],w.heap.size,1,1,rfl,hid rfl,hS0,hI0,by omega,by omega,Oo,hz0⟩
 case round =>
  obtain ⟨st,g,c,d,rfl,HD,HS,HI,hgk,hdk,HO,zZ⟩:=hrel;have hO:=HO.out;obtain ⟨hgb,hgl,hdc,hcm⟩:=uk hO
  cases d with
  | zero =>
   have hst:st=[]:=List.length_eq_zero_iff.1 HD.out;subst hst;clear hO
   go_wp2_with fail
   go_ret
   exact ⟨rfl,g,HI.out⟩
  | succ d =>
   obtain ⟨e,st',rfl⟩:∃ e r,st=e :: r:=by
    cases st with
    | nil=>have:=HD.out; cases this
    | cons e r=>exact ⟨e,r,rfl⟩
   have hd:st'.length=d:=by have:=HD.out; simpa using this
   rw [iP] at hO;have c0:wr.cell? ⟨g,d,none⟩=some (.pointer (some (ad e))):=fQ hO d _ (by rw [List.getElem?_append_right (by rw [jw]; omega),jw,hd,Nat.sub_self]; rfl);have mr:=hid (kW hO);have hsub:IntKind.i64.wrap (((d+1:Nat):Int) - 1)=(d:Int):=by rw [show ((d+1:Nat):Int) - 1=(d:Int) by omega]; exact IntWalk.i64_in _ (by omega)
   have hsub2:IntKind.i64.wrap ((d:Int)+1 - 1)=(d:Int):=by rw [show (d:Int)+1 - 1=(d:Int) by omega]; exact IntWalk.i64_in _ (by omega)
   have Gg:=hid hd;have HC:=hid (Uo.out e st' g wr HI.out hgl);have hpos:(0:Int) < ((d+1:Nat):Int):=by omega
   have hlt2:(d:Int) < ((d+1:Nat):Int):=by omega
   have hnn:(0:Int)≤(d:Int):=by omega
   have hle2:(d:Int)≤(c:Int):=by omega
   clear hO hd
   go_wp2_with fail
   refine HC.out.mono ?_
   rintro x w1 ⟨rfl,hj,hz1,hk1⟩;have HJ:=hid (Ur.out e st' g w1 hj (by omega));have wF:=hid (jC mr.out hk1);clear hj hk1 HC mr c0 HI HO
   go_wp2_with fail
   refine HJ.out.mono ?_
   rintro x w2 ⟨p,cc,kl,rfl,hks,hp,hi2,hz2,hk2⟩;have HI2:=hid hi2;have yB:=hid (jC wF.out hk2);have HP:=hid hp;clear hi2 hk2 hp HJ wF;have hsm:szs sz (e :: st')≤gk:=HS.out;simp only [szs] at hsm;have hkl:=HLEN.out kl;have Ad:=HLEN.out st';rw [Gg.out] at Ad;have HB:Hid (szs sz kl+szs sz st'+1≤gk):=hid (by omega);obtain ⟨n,hn⟩:∃ n,n=kl.length:=⟨_,rfl⟩
   rw [← hn] at HP hkl ⊢;have HN:=hid hn;have hnd:n+d+1≤gk:=by omega
   clear hn hks hsm hkl Ad HS;have JV:IntKind.i64.wrap ((n:Int) - 1)=(n:Int) - 1:=IntWalk.i64_in _ (by omega);have hzz:w.heap.size≤w2.heap.size:=by omega
   obtain ⟨G,hG⟩:∃ G,G=gk:=⟨_,rfl⟩
   subst hG;obtain ⟨wo,hwo⟩:∃ wo,wo=wr:=⟨_,rfl⟩
   subst hwo
   go_wp2_with fail
   go_loopg [7,10] n (fun gk v7 v10 wr=>∃ (gr c2:Nat),v10=.int .i64 ((gk:Int) - 1)∧v7=.slice (some ⟨gr,0,none⟩) (n - gk+d) c2∧gk≤n∧Hid (I (kl++st') gr wr)∧Hid (wr.ownsRow w.heap.size 152 1 (.slice (some ⟨gr,0,none⟩) (n - gk+d) c2) (n - gk+d) (ptrs ad (kl.drop gk++st')))∧w.heap.size≤wr.heap.size)
   case atStart=>exact ⟨g,c,rfl,by simp,Nat.le_refl _,HI2,hid (by have:=yB.out; rw [HN.out,List.drop_length,Nat.sub_self,Nat.zero_add]; exact this),hzz⟩
   case round =>
    obtain ⟨gr,c2,rfl,rfl,hgn,DK,yC,hzi⟩:=hrel
    cases gk with
    | zero =>
     go_wp2_with fail
     go_roundg (G - 1)
     case rel=>exact ⟨kl++st',gr,c2,n+d,by simp,hid (by simp [HN.out,Gg.out]),hid (by rw [ng]; have:=HB.out; omega),DK,by omega,by omega,by simpa using yC,hzi⟩
     case measure=>omega
    | succ gk =>
     have hlt:gk < kl.length:=by rw [← HN.out]; omega
     obtain ⟨b,off,rfl,hnc,had⟩:=HP.out.resolve_left (by omega);have hr1:(0:Int)≤((gk+1:Nat):Int) - 1:=by omega
     have hgi:((gk+1:Nat):Int) - 1=(gk:Int):=by omega
     have hgi':(gk:Int)+1 - 1=(gk:Int):=by omega
     have JW:IntKind.i64.wrap ((gk:Int) - 1)=(gk:Int) - 1:=IntWalk.i64_in _ (by omega);have h00:(0:Int)≤(gk:Int):=by omega
     have h01:(gk:Int) < (n:Int):=by omega
     obtain ⟨q,hq⟩:∃ q,q=n - (gk+1)+d:=⟨_,rfl⟩
     rw [← hq] at yC ⊢;have hqq:n - gk+d=q+1:=by omega
     have hq1:q≤10000000:=by omega
     obtain ⟨kd,hkd⟩:∃ kd,kl[gk]?=some kd:=⟨_,List.getElem?_eq_getElem hlt⟩
     have HAD:=hid (had gk kd hkd);have DL:=hid hkd;have JX:Hid (∀ g' w',wr.grownBy w' (some gr)→(g'=gr∨wr.heap.size≤g')→I (kl++st') g' w'):=hid fun g' w' h1 h2=>HST.out _ _ _ _ _ DK.out h1 h2
     clear had hkd hq hlt DK HP;rw [hgi]
     go_wp2_with (at_builtin; refine wpList_append_lies _ rfl _ _ 206 rfl w.heap.size 152 i0 _ 1 8 underlying206 hi0 hy0 hy1 hy2 rfl (by omega) _ q _ rfl (World.ownsRow.alloc yC.out _) ⟨wr.heap.size,0,none⟩ 1 1 [.pointer (some ⟨b,off+gk * 2,none⟩)] rfl rfl kX (by simp [Value.oneCell']) (by omega) (by unfold maxLen; omega) (by omega) (by simp; omega) (wr.heap.size+1) (by simp) ?_)
     intro g2 c3 w3 hown3 hgrow hgg hlt3;have jS:Hid (w3.ownsRow w.heap.size 152 1 (.slice (some ⟨g2,0,none⟩) (n - gk+d) c3) (n - gk+d) (ptrs ad (kl.drop gk++st'))):=hid (by
      rw [hqq,kV DL.out,List.cons_append,iP,HAD.out]; exact hown3)
     have hgrow2:wr.grownBy w3 (some gr):=ae (grown_below ((Below.refl _ _).alloc (Nat.le_refl _) _) _) hgrow;have Q8:=hid (JX.out g2 w3 hgrow2 (by
      rcases hgg with h | h
      ·left; simpa [Value.ownBlock] using h.symm
      ·right; omega))
     have DN:w.heap.size≤w3.heap.size:=by have:=hgrow2.size; omega
     clear hown3 hgrow hgrow2 hgg JX yC HAD DL;rw [← hqq]
     go_wp2_with fail
     go_roundg gk
     case rel=>exact ⟨g2,c3,rfl,rfl,by omega,Q8,jS,DN⟩
     case measure=>omega
set_option maxHeartbeats 4000000 in
theorem Ip {ε:Type} (ad:ε→Addr) (sz:ε→Nat) (hsz:∀ e,1≤sz e) (I:List ε→Nat→World→Prop) (J:ε→List ε→Nat→World→Prop)
  (stab:∀ st g w w' g',I st g w→w.grownBy w' (some g)→(g'=g∨w.heap.size≤g')→I st g' w')
  (fk fw:Nat) (ck cw:Array Value) (hck:∀ args w,Sem.run prog (callFunc fk args) w=.ok (.enter fk args) w) (hcw:∀ args w,Sem.run prog (callFunc fw args) w=.ok (.enter fw args) w)
  (HW:∀ e st g w,I (e :: st) g w→g < w.heap.size→Calls prog fw (#[.pointer (some (ad e))]++cw) w fun x w'=>x=.returned (.bool true)∧J e st g w'∧w.heap.size≤w'.heap.size∧w'.heap[g]?=w.heap[g]?)
  (HK:∀ e st g w,J e st g w→g < w.heap.size→Calls prog fk (#[.pointer (some (ad e))]++ck) w fun x w'=>∃ p c,∃ kl:List ε,x=.returned (.slice p kl.length c)∧szs sz kl+1≤sz e ∧
   (kl.length=0∨∃ b off,p=some ⟨b,off,none⟩∧kl.length≤c∧∀ i e',kl[i]?=some e'→ad e'=⟨b,off+i * 6,none⟩)∧I (kl++st) g w'∧w.heap.size≤w'.heap.size∧w'.heap[g]?=w.heap[g]?)
  (e0:ε) (w:World) (hM:sz e0≤10000000) (h0:∀ w',Below w.heap.size w w'→I [e0] w.heap.size w') :
  Calls prog 96 #[.pointer (some (ad e0)),.func (.func fk) #[] ck,.func (.func fw) #[] cw] w fun x w'=>x=.returned (.bool true)∧∃ g,I [] g w':=by
 have Uo:=hid HW;have Ur:=hid HK;have HST:=hid stab;have HLEN:Hid (∀ l:List ε,l.length≤szs sz l):=hid fun l=>tY sz hsz l
 have hI0:=hid (h0 (w.alloc (.cells #[.pointer (some (ad e0))] 104)) ((Below.refl _ _).alloc (Nat.le_refl _) _));have Oo:Hid ((w.alloc (.cells #[.pointer (some (ad e0))] 104)).ownsRow w.heap.size 104 1 (.slice (some ⟨w.heap.size,0,none⟩) 1 1) 1 (ptrs ad [e0])):=hid (dB (heap_alloc_new w _) (Nat.le_refl _) rfl (by unfold maxLen; omega));have hz0:w.heap.size≤(w.alloc (.cells #[.pointer (some (ad e0))] 104)).heap.size:=by simp
 have infoP:(prog.info? 104).map (fun i=>(i.zero,i.size,i.bytes))=some (some (.pointer none),1,8):=by kernel_rfl
 obtain ⟨i0,hi0,hy0,hy1,hy2⟩:=info_parts infoP;clear HW HK stab hsz h0 infoP;obtain ⟨N,hN⟩:∃ N,N=w.heap.size:=⟨_,rfl⟩
 have hS0:Hid (szs sz [e0]≤10000000):=hid (by simp [szs]; exact hM);clear hM
 go_enter func96,ntmps96
 go_wp2_with fail
 go_loopg [7] 10000000 (fun gk v7 wr=>∃ (st:List ε) (g c d:Nat),v7=.slice (some ⟨g,0,none⟩) d c∧Hid (st.length=d)∧Hid (szs sz st≤gk)∧Hid (I st g wr)∧gk≤10000000∧d≤gk∧Hid (wr.ownsRow w.heap.size 104 1 (.slice (some ⟨g,0,none⟩) d c) d (ptrs ad st))∧w.heap.size≤wr.heap.size)
 case atStart=>exact ⟨[e0],w.heap.size,1,1,rfl,hid rfl,hS0,hI0,by omega,by omega,Oo,hz0⟩
 case round =>
  obtain ⟨st,g,c,d,rfl,HD,HS,HI,hgk,hdk,HO,zZ⟩:=hrel;have hO:=HO.out;obtain ⟨hgb,hgl,hdc,hcm⟩:=uk hO
  cases d with
  | zero =>
   have hst:st=[]:=List.length_eq_zero_iff.1 HD.out;subst hst;clear hO
   go_wp2_with fail
   go_ret
   exact ⟨rfl,g,HI.out⟩
  | succ d =>
   obtain ⟨e,st',rfl⟩:∃ e r,st=e :: r:=by
    cases st with
    | nil=>have:=HD.out; cases this
    | cons e r=>exact ⟨e,r,rfl⟩
   have hd:st'.length=d:=by have:=HD.out; simpa using this
   rw [iP] at hO;have c0:wr.cell? ⟨g,d,none⟩=some (.pointer (some (ad e))):=fQ hO d _ (by rw [List.getElem?_append_right (by rw [jw]; omega),jw,hd,Nat.sub_self]; rfl);have mr:=hid (kW hO);have hsub:IntKind.i64.wrap (((d+1:Nat):Int) - 1)=(d:Int):=by rw [show ((d+1:Nat):Int) - 1=(d:Int) by omega]; exact IntWalk.i64_in _ (by omega)
   have hsub2:IntKind.i64.wrap ((d:Int)+1 - 1)=(d:Int):=by rw [show (d:Int)+1 - 1=(d:Int) by omega]; exact IntWalk.i64_in _ (by omega)
   have Gg:=hid hd;have HC:=hid (Uo.out e st' g wr HI.out hgl);have hpos:(0:Int) < ((d+1:Nat):Int):=by omega
   have hlt2:(d:Int) < ((d+1:Nat):Int):=by omega
   have hnn:(0:Int)≤(d:Int):=by omega
   have hle2:(d:Int)≤(c:Int):=by omega
   clear hO hd
   go_wp2_with fail
   refine HC.out.mono ?_
   rintro x w1 ⟨rfl,hj,hz1,hk1⟩;have HJ:=hid (Ur.out e st' g w1 hj (by omega));have wF:=hid (jC mr.out hk1);clear hj hk1 HC mr c0 HI HO
   go_wp2_with fail
   refine HJ.out.mono ?_
   rintro x w2 ⟨p,cc,kl,rfl,hks,hp,hi2,hz2,hk2⟩;have HI2:=hid hi2;have yB:=hid (jC wF.out hk2);have HP:=hid hp;clear hi2 hk2 hp HJ wF;have hsm:szs sz (e :: st')≤gk:=HS.out;simp only [szs] at hsm;have hkl:=HLEN.out kl;have Ad:=HLEN.out st';rw [Gg.out] at Ad;have HB:Hid (szs sz kl+szs sz st'+1≤gk):=hid (by omega);obtain ⟨n,hn⟩:∃ n,n=kl.length:=⟨_,rfl⟩
   rw [← hn] at HP hkl ⊢;have HN:=hid hn;have hnd:n+d+1≤gk:=by omega
   clear hn hks hsm hkl Ad HS;have JV:IntKind.i64.wrap ((n:Int) - 1)=(n:Int) - 1:=IntWalk.i64_in _ (by omega);have hzz:w.heap.size≤w2.heap.size:=by omega
   obtain ⟨G,hG⟩:∃ G,G=gk:=⟨_,rfl⟩
   subst hG;obtain ⟨wo,hwo⟩:∃ wo,wo=wr:=⟨_,rfl⟩
   subst hwo
   go_wp2_with fail
   go_loopg [7,10] n (fun gk v7 v10 wr=>∃ (gr c2:Nat),v10=.int .i64 ((gk:Int) - 1)∧v7=.slice (some ⟨gr,0,none⟩) (n - gk+d) c2∧gk≤n∧Hid (I (kl++st') gr wr)∧Hid (wr.ownsRow w.heap.size 104 1 (.slice (some ⟨gr,0,none⟩) (n - gk+d) c2) (n - gk+d) (ptrs ad (kl.drop gk++st')))∧w.heap.size≤wr.heap.size)
   case atStart=>exact ⟨g,c,rfl,by simp,Nat.le_refl _,HI2,hid (by have:=yB.out; rw [HN.out,List.drop_length,Nat.sub_self,Nat.zero_add]; exact this),hzz⟩
   case round =>
    obtain ⟨gr,c2,rfl,rfl,hgn,DK,yC,hzi⟩:=hrel
    cases gk with
    | zero =>
     go_wp2_with fail
     go_roundg (G - 1)
     case rel=>exact ⟨kl++st',gr,c2,n+d,by simp,hid (by simp [HN.out,Gg.out]),hid (by rw [ng]; have:=HB.out; omega),DK,by omega,by omega,by simpa using yC,hzi⟩
     case measure=>omega
    | succ gk =>
     have hlt:gk < kl.length:=by rw [← HN.out]; omega
     obtain ⟨b,off,rfl,hnc,had⟩:=HP.out.resolve_left (by omega);have hr1:(0:Int)≤((gk+1:Nat):Int) - 1:=by omega
     have hgi:((gk+1:Nat):Int) - 1=(gk:Int):=by omega
     have hgi':(gk:Int)+1 - 1=(gk:Int):=by omega
     have JW:IntKind.i64.wrap ((gk:Int) - 1)=(gk:Int) - 1:=IntWalk.i64_in _ (by omega);have h00:(0:Int)≤(gk:Int):=by omega
     have h01:(gk:Int) < (n:Int):=by omega
     obtain ⟨q,hq⟩:∃ q,q=n - (gk+1)+d:=⟨_,rfl⟩
     rw [← hq] at yC ⊢;have hqq:n - gk+d=q+1:=by omega
     have hq1:q≤10000000:=by omega
     obtain ⟨kd,hkd⟩:∃ kd,kl[gk]?=some kd:=⟨_,List.getElem?_eq_getElem hlt⟩
     have HAD:=hid (had gk kd hkd);have DL:=hid hkd;have JX:Hid (∀ g' w',wr.grownBy w' (some gr)→(g'=gr∨wr.heap.size≤g')→I (kl++st') g' w'):=hid fun g' w' h1 h2=>HST.out _ _ _ _ _ DK.out h1 h2
     clear had hkd hq hlt DK HP;rw [hgi]
     go_wp2_with (at_builtin; refine wpList_append_lies _ rfl _ _ 191 rfl w.heap.size 104 i0 _ 1 8 underlying191 hi0 hy0 hy1 hy2 rfl (by omega) _ q _ rfl (World.ownsRow.alloc yC.out _) ⟨wr.heap.size,0,none⟩ 1 1 [.pointer (some ⟨b,off+gk * 6,none⟩)] rfl rfl kX (by simp [Value.oneCell']) (by omega) (by unfold maxLen; omega) (by omega) (by simp; omega) (wr.heap.size+1) (by simp) ?_)
     intro g2 c3 w3 hown3 hgrow hgg hlt3;have jS:Hid (w3.ownsRow w.heap.size 104 1 (.slice (some ⟨g2,0,none⟩) (n - gk+d) c3) (n - gk+d) (ptrs ad (kl.drop gk++st'))):=hid (by
      rw [hqq,kV DL.out,List.cons_append,iP,HAD.out]; exact hown3)
     have hgrow2:wr.grownBy w3 (some gr):=ae (grown_below ((Below.refl _ _).alloc (Nat.le_refl _) _) _) hgrow;have Q8:=hid (JX.out g2 w3 hgrow2 (by
      rcases hgg with h | h
      ·left; simpa [Value.ownBlock] using h.symm
      ·right; omega))
     have DN:w.heap.size≤w3.heap.size:=by have:=hgrow2.size; omega
     clear hown3 hgrow hgrow2 hgg JX yC HAD DL;rw [← hqq]
     go_wp2_with fail
     go_roundg gk
     case rel=>exact ⟨g2,c3,rfl,rfl,by omega,Q8,jS,DN⟩
     case measure=>omega
theorem uz (b o:Nat) (h:Hd) (w:World) (hat:bP w b o h):Calls prog 126 #[.pointer (some ⟨b,o,none⟩)] w fun e w'=>e=.returned (.slice h.kp h.kn h.kc)∧w=w':=by
 obtain ⟨h0,h1,h2,h3,h4,h5⟩:=hat
 go_enter func126,ntmps126
 go_wp2
 go_ret
 exact ⟨rfl,rfl⟩
def iI (L:List Tok) (f t:Nat):Int × Int:=((L[f]?.map fun k=>(k.a:Int)).getD 0,bif f == t then (L[f]?.map fun k=>(k.a:Int)).getD 0 else (L[t - 1]?.map fun k=>(k.e:Int)).getD 0)
theorem Ny (L:List Tok) (g c f t:Nat) (w:World) (ht:jr w g L) (hf:f < L.length) (hft:f≤t) (htl:t≤L.length) (hc:L.length≤c) (hb:L.length≤1000000000) :
  Calls prog 88 #[.slice (some ⟨g,0,none⟩) L.length c,.int .i64 f,.int .i64 t] w fun e w'=>e=.returned (.tuple #[.int .i64 (iI L f t).1,.int .i64 (iI L f t).2])∧∃ m,w'=w.drewN m:=by
 have h1:(0:Int)≤(f:Int):=by omega
 have h2:(f:Int) < (L.length:Int):=by omega
 obtain ⟨a0,a1,a2⟩:=ht f hf
 by_cases Q9:f=t
 ·subst Q9
  have hs:iI L f f=((L[f].a:Int),(L[f].a:Int)):=by simp [iI,hf]
  rw [hs];clear hs ht a2 a0;generalize L[f].a=la at *;clear hf;generalize L.length=n at *
  go_enter func88,ntmps88
  go_wp2
  go_returns
  exact ⟨rfl,0,rfl⟩
 ·obtain ⟨j,rfl⟩:∃ j,t=j+1:=⟨t - 1,by omega⟩
  have hj:j < L.length:=by omega
  obtain ⟨b0,b1,b2⟩:=ht j hj;have hx:(f == j+1)=false:=by simpa using Q9
  have hx2:((f:Int) == ((j+1:Nat):Int))=false:=by simp; omega
  have hx3:((f:Int) == (j:Int)+1)=false:=by simp; omega
  have hs:iI L f (j+1)=((L[f].a:Int),(L[j].e:Int)):=by simp [iI,hf,hj,hx]
  rw [hs];have hs1:IntKind.i64.wrap (((j+1:Nat):Int) - 1)=(j:Int):=by rw [show ((j+1:Nat):Int) - 1=(j:Int) by omega]; exact IntWalk.i64_in _ (by omega)
  have hs2:IntKind.i64.wrap ((j:Int)+1 - 1)=(j:Int):=by rw [show (j:Int)+1 - 1=(j:Int) by omega]; exact IntWalk.i64_in _ (by omega)
  have h3:(0:Int)≤(j:Int):=by omega
  have h4:(j:Int) < (L.length:Int):=by omega
  clear hs ht a2 a0 b0 b1 hx Q9 hft;generalize L[f].a=la at *;generalize L[j].e=le at *;clear hf hj;generalize L.length=n at *
  go_enter func88,ntmps88
  go_wp2_with fail
  go_quiet (fail)
  go_wp2_with fail
  go_returns
  exact ⟨rfl,_,rfl⟩
end Go.Proofs.YtmpmfamiegpmgaaGreatDoor
