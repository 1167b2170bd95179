/-
  The reader of the parser: what it goes over, where it stands, and its smallest calls.; The parser, as a plain function of a text's tokens: what each of its calls comes to.; The reader's smallest steps: expect, pass, need.; slices.Contains over ints and over texts; the reader's need, take, is.; The reader's value, is, begins, colon.
-/
import Derived.Test.YtmpmfamiegpmgaaGreatDoorGB
import Derived.Recover
import Derived.Defers
namespace Go.Proofs.YtmpmfamiegpmgaaGreatDoor
open Tryz
open Go.Lib (cell_of_heap hid)
open Go.RowKit
set_option linter.unusedVariables false
set_option linter.unusedSimpArgs false

structure Src where
 s:ByteArray
 ts:List Tok
 g:Nat
 gw:Nat
 cw:Nat
structure Src.Good (S:Src):Prop where
 size:S.s.size≤1000000
 len:S.ts.length≤1000001
 inside:∀ t ∈ S.ts,t.a≤t.e∧t.e≤S.s.size
 fin:∀ i,(h:i < S.ts.length)→(S.ts[i].k=0 ↔ i+1=S.ts.length)
 endt:∀ t ∈ S.ts,t.k=0→t.a=t.e
 cap:S.ts.length≤S.cw
 apart:S.gw≠S.g
def Src.tx (S:Src) (n:Nat):ByteArray:=match S.ts[n]? with | some t=>S.s.extract t.a t.e | none=>⟨#[]⟩
def Src.kd (S:Src) (n:Nat):Int:=match S.ts[n]? with | some t=>t.k | none=>0
def Src.pl (S:Src) (n:Nat):Int:=match S.ts[n]? with | some t=>(t.a:Int) | none=>0
theorem Src.tx_at (S:Src) {n:Nat} (h:n < S.ts.length):S.tx n=S.s.extract S.ts[n].a S.ts[n].e:=by simp [Src.tx,h]
theorem Src.kd_at (S:Src) {n:Nat} (h:n < S.ts.length):S.kd n=S.ts[n].k:=by simp [Src.kd,h]
theorem Src.pl_at (S:Src) {n:Nat} (h:n < S.ts.length):S.pl n=(S.ts[n].a:Int):=by simp [Src.pl,h]

structure Rd (w:World) (S:Src) (n d:Nat):Prop where
 good:S.Good
 here:n < S.ts.length
 box:w.heap[S.g]?=some (.cells #[.string S.s,.slice (some ⟨S.gw,0,none⟩) S.ts.length S.cw,.int .i64 (n:Int),.int .i64 (d:Int)] 197 (0,0))
 row:S.gw < w.heap.size
 toks:jr w S.gw S.ts
 deep:d≤256
theorem Rd.lt {w:World} {S:Src} {n d:Nat} (h:Rd w S n d):S.g < w.heap.size:=(Array.getElem?_eq_some_iff.1 h.box).1
theorem Rd.step {w w':World} {S:Src} {n d:Nat} (h:Rd w S n d) (hb:Below w.heap.size w w'):Rd w' S n d :=
 ⟨h.good,h.here,(hb.block _ h.lt).trans h.box,Nat.lt_of_lt_of_le h.row hb.size,h.toks.step h.row hb,h.deep⟩
theorem Rd.cell {w:World} {S:Src} {n d:Nat} (h:Rd w S n d) (o:Nat):w.cell? ⟨S.g,o,none⟩=(#[.string S.s,.slice (some ⟨S.gw,0,none⟩) S.ts.length S.cw,.int .i64 (n:Int),.int .i64 (d:Int)]:Array Value)[o]?:=cell_of_heap h.box o
theorem Rd.c0 {w:World} {S:Src} {n d:Nat} (h:Rd w S n d):w.cell? ⟨S.g,0,none⟩=some (.string S.s):=by rw [h.cell]; rfl
theorem Rd.c1 {w:World} {S:Src} {n d:Nat} (h:Rd w S n d):w.cell? ⟨S.g,1,none⟩=some (.slice (some ⟨S.gw,0,none⟩) S.ts.length S.cw):=by rw [h.cell]; rfl
theorem Rd.c2 {w:World} {S:Src} {n d:Nat} (h:Rd w S n d):w.cell? ⟨S.g,2,none⟩=some (.int .i64 (n:Int)):=by rw [h.cell]; rfl
theorem Rd.c3 {w:World} {S:Src} {n d:Nat} (h:Rd w S n d):w.cell? ⟨S.g,3,none⟩=some (.int .i64 (d:Int)):=by rw [h.cell]; rfl
theorem Rd.free {w:World} {S:Src} {n d:Nat} (h:Rd w S n d) (o:Nat):w.frozen? ⟨S.g,o,none⟩=false:=by simp [World.frozen?,h.box]

theorem bG (S:Src) (n d:Nat) (w:World) (h:Rd w S n d):Calls prog 120 #[.pointer (some ⟨S.g,0,none⟩)] w fun e w'=>e=.returned (.int .i64 (S.kd n))∧Below w.heap.size w w':=by
 have c1:=h.c1;have c2:=h.c2;obtain ⟨t0,t1,t2⟩:=h.toks n h.here;have hn1:(0:Int)≤(n:Int):=by omega
 have hn2:(n:Int) < (S.ts.length:Int):=by have:=h.here; omega
 have HK:=hid (S.kd_at h.here);rw [← HK.out] at t0;clear t1 t2 HK h
 go_enter func120,ntmps120
 go_wp2_with fail
 go_quiet (fail)
 go_wp2_with fail
 go_ret
 exact ⟨rfl,below_drewN (Below.refl _ _) _⟩
theorem vM (S:Src) (n d:Nat) (w:World) (h:Rd w S n d):Calls prog 171 #[.pointer (some ⟨S.g,0,none⟩)] w fun e w'=>e=.returned (.int .i64 (S.pl n))∧Below w.heap.size w w':=by
 have c1:=h.c1;have c2:=h.c2;obtain ⟨t0,t1,t2⟩:=h.toks n h.here;have hn1:(0:Int)≤(n:Int):=by omega
 have hn2:(n:Int) < (S.ts.length:Int):=by have:=h.here; omega
 have HK:=hid (S.pl_at h.here);rw [← HK.out] at t1;clear t0 t2 HK h
 go_enter func171,ntmps171
 go_wp2_with fail
 go_quiet (fail)
 go_wp2_with fail
 go_ret
 exact ⟨rfl,below_drewN (Below.refl _ _) _⟩
theorem dF (S:Src) (n d m:Nat) (w:World) (h:Rd w S n d) (hm:m < S.ts.length):Calls prog 227 #[.pointer (some ⟨S.g,0,none⟩),.int .i64 (m:Int)] w fun e w'=>e=.returned (.string (S.tx m))∧Below w.heap.size w w':=by
 have c0:=h.c0;have c1:=h.c1;obtain ⟨t0,t1,t2⟩:=h.toks m hm;have hn1:(0:Int)≤(m:Int):=by omega
 have hn2:(m:Int) < (S.ts.length:Int):=by omega
 obtain ⟨i1,i2⟩:=h.good.inside S.ts[m] (List.getElem_mem hm);have hz:=h.good.size;have HK:=hid (S.tx_at hm);rw [HK.out];clear t0 h HK;generalize S.ts[m].a=a at *;generalize S.ts[m].e=e at *;have hsl:∀ w,Sem.run prog (Instr.slice 9 (.string S.s) (some (.int .i64 a)) (some (.int .i64 e)) none) w=.ok (.string (S.s.extract a e)) w:=fun w=>by
  have:=run_slice_string (P:=prog) (w:=w) 9 S.s .i64 .i64 (a:Int) (e:Int) underlying9 (by omega) (by omega) (by omega)
  exact this
 go_enter func227,ntmps227
 go_wp2_with fail
 go_quiet (fail)
 go_wp2_with fail
 go_ret
 exact ⟨rfl,below_drewN (Below.refl _ _) _⟩
end Go.Proofs.YtmpmfamiegpmgaaGreatDoor

namespace Go.Proofs.YtmpmfamiegpmgaaGreatDoor
open Go.RowKit
set_option linter.unusedVariables false
set_option linter.unusedSimpArgs false

inductive Out (α:Type) where
 | ok (a:α) (n:Nat)
 | form (n:Nat)
 | deep (n:Nat)
 | dry
def Out.bind {α β:Type} (o:Out α) (f:α→Nat→Out β):Out β:=match o with
 | .ok a n=>f a n
 | .form n=>.form n
 | .deep n=>.deep n
 | .dry=>.dry
def Out.pan {α:Type} (S:Src):Out α→Option (List PanicEntry)
 | .form n=>some [{ v:=.iface 194 (.int .i64 (S.pl n)),recovered:=false }]
 | .deep n=>some [{ v:=.iface 195 (.int .i64 (S.pl n)),recovered:=false }]
 | _=>none
theorem ai {α β:Type} {S:Src} {o:Out α} {f:α→Nat→Out β} {ch:List PanicEntry} (h:o.pan S=some ch):(o.bind f).pan S=some ch:=by
 cases o <;> simp_all [Out.pan,Out.bind]
theorem aA {α β:Type} {o:Out α} {f:α→Nat→Out β} (h:o.bind f≠.dry):o≠.dry:=by
 intro e; subst e; exact h rfl

inductive Pb where
 | mk (k m f t:Int) (ns:List Int) (ks:List Pb)

namespace Src
variable (S:Src)
def is (n:Nat) (t:List UInt8):Bool:=(S.tx n).data.toList == t
def need (t:List UInt8) (n:Nat):Out Unit:=bif S.is n t then .ok () (n+1) else .form n
def take (ks:List Int) (n:Nat):Out Nat:=bif ks.contains (S.kd n) then .ok n (n+1) else .form n
def pathL (ks:List Int):Nat→List Nat→Nat→Out (List Nat)
 | 0,_,_=>.dry
 | f+1,acc,n=>bif S.kd (n - 1) == 7 && S.is n [46] then (S.take ks (n+1)).bind fun m n'=>pathL ks f (acc++[m]) n' else .ok acc n
def path (ks:List Int) (n:Nat):Out (List Nat):=(S.take ks n).bind fun m n'=>S.pathL ks S.ts.length [m] n'
def value (n:Nat):Out Nat:=bif S.is n [111,112] then S.take [9] (n+1) else S.take [6] n
def typePath (n:Nat):Out (List Nat):=(S.path [7,6] n).bind fun p n'=>bif S.kd (n' - 1) == 6 then .ok p n' else .form n'
def beginsK (n:Nat):Bool:=(S.kd n == 4 || S.kd n == 5) || (S.kd n == 6 || S.kd n == 7)
def begins (others:List (List UInt8)) (n:Nat):Bool:=S.beginsK n || (S.is n [111,112] || S.is n [40]) || others.any fun t=>S.is n t
def colon (n:Nat):Nat × Nat:=bif S.is n [58] then (1,n+1) else bif S.is n [58,62] then (2,n+1) else (0,n)
end Src

def nX (S:Src) (mark:List UInt8) (read:Nat→Out Pb):Nat→List Pb→Nat→Out (List Pb)
 | 0,_,_=>.dry
 | f+1,acc,n=>bif S.is n mark then (read (n+1)).bind fun b n'=>nX S mark read f (acc++[b]) n' else .ok acc n
def gK (S:Src) (F:Nat) (mark:List UInt8) (read:Nat→Out Pb) (n:Nat):Out (List Pb):=(read n).bind fun b n'=>nX S mark read F [b] n'
def node (k:Int) (f t:Nat) (ns:List Nat) (ks:List Pb):Pb:=.mk k 0 f t (ns.map fun x:Nat=>(x:Int)) ks
def marked (m:Int):Pb→Pb | .mk k _ f t ns ks=>.mk k m f t ns ks
def fB (l:List Pb) (k:Int) (f t:Nat) (ns:List Nat):Pb:=match l with | [b]=>b | _=>node k f t ns l

def qH (l:List Pb) (f:Pb→Out Pb) (g:Out Pb):Out Pb:=match l with | [b]=>f b | _=>g

inductive Nt where
 | exp | pat | ty | sig | str | dec (at_:Nat)

section
variable (S:Src) (F:Nat) (rec:Nt→Nat→Nat→Out Pb) (d:Nat)

-- types
def dZ (n:Nat):Out Pb :=
 bif S.kd n == 8 then .ok (node 41 n (n+1) [] []) (n+1)
 else bif S.is n [40] then (gK S F [44] (rec .ty d) (n+1)).bind fun l n1=>(S.need [41] n1).bind fun _ n2=>qH l (fun b=>.ok b n2) ((S.typePath n2).bind fun p n3=>.ok (node 42 n n3 p l) n3)
 else (S.typePath n).bind fun p n1=>.ok (node 42 n n1 p []) n1
def dX (n:Nat):Nat→Pb→Nat→Out Pb
 | 0,_,_=>.dry
 | f+1,b,m=>bif S.kd m == 7 || S.kd m == 6 then (S.typePath m).bind fun p m1=>dX n f (node 42 n m1 p [b]) m1 else .ok b m
def dK (n:Nat):Out Pb:=(dZ S F rec d n).bind fun b n1=>dX S n F b n1
def fE (n:Nat):Out Pb:=(gK S F [42] (dK S F rec d) n).bind fun l n1=>.ok (fB l 44 n n1 []) n1
def tyO (n:Nat):Out Pb:=(fE S F rec d n).bind fun b n1=>bif S.is n1 [45,62] then (rec .ty d (n1+1)).bind fun c n2=>.ok (node 43 n n2 [] [b,c]) n2 else .ok b n1

-- patterns and atoms
def je (from_:Nat) (member:Nat→Out Pb) (n:Nat):Out Pb :=
 bif S.is n [41] then .ok (node 30 from_ (n+1) [] []) (n+1)
 else (gK S F [44] member n).bind fun l n1=>(S.need [41] n1).bind fun _ n2=>.ok (fB l 30 from_ n2 []) n2
def plainO (named:Int) (member:Nat→Out Pb) (n:Nat):Out Pb :=
 bif S.kd n == 4 then .ok (node 26 n (n+1) [] []) (n+1)
 else bif S.kd n == 5 then .ok (node 27 n (n+1) [] []) (n+1)
 else bif S.is n [40] then je S F n member (n+1)
 else (S.value n).bind fun m n1=>.ok (node named n n1 [m] []) n1
def bZ (n:Nat):Out Pb :=
 bif S.is n [95] then .ok (node 38 n (n+1) [] []) (n+1)
 else bif S.kd n == 7 then (S.path [7] n).bind fun p n1=>.ok (node 29 n n1 p []) n1
 else plainO S F 39 (rec .pat d) n
def qL (n:Nat):Out Pb :=
 bif S.kd n == 6 && S.is (n+1) [97,115] then (rec .pat d (n+2)).bind fun b n1=>.ok (node 40 n n1 [n] [b]) n1
 else bif S.kd n == 7 then (S.path [7] n).bind fun p n1 =>
  bif S.begins [[95]] n1 then (bZ S F rec d n1).bind fun b n2=>.ok (node 29 n n2 p [b]) n2 else .ok (node 29 n n1 p []) n1
 else bZ S F rec d n

-- declarations' loop
def declares (at_ n:Nat):Bool :=
 bif S.is n [115,105,103,110,97,116,117,114,101] || S.is n [102,117,110,99,116,111,114] then decide (2≤at_)
 else bif S.is n [115,116,114,117,99,116,117,114,101] then decide (1≤at_)
 else (S.is n [118,97,108] || S.is n [102,117,110]) || (S.is n [116,121,112,101] || S.is n [100,97,116,97,116,121,112,101]) || (S.is n [111,112,101,110] || S.is n [108,111,99,97,108])
def mf (at_:Nat):Nat→List Pb→Nat→Out (List Pb)
 | 0,_,_=>.dry
 | f+1,acc,n=>bif S.is n [59] then mf at_ f acc (n+1)
  else bif declares S at_ n then (rec (.dec at_) d n).bind fun b n1=>mf at_ f (acc++[b]) n1
  else .ok acc n
def iy (at_ n:Nat):Out (List Pb):=mf S rec d at_ F [] n
def gz (at_ n:Nat):Out Pb:=(iy S F rec d at_ n).bind fun l n1=>.ok (node 2 n n1 [] l) n1

-- expressions
def iZ (n:Nat):Out Pb :=
 bif S.kd n == 7 then (S.path [7,6] n).bind fun p n1=>bif S.kd (n1 - 1) == 7 then .ok (node 29 n n1 p []) n1 else .ok (node 28 n n1 p []) n1
 else bif S.is n [108,101,116] then (gz S F rec d 0 (n+1)).bind fun ds n1=>(S.need [105,110] n1).bind fun _ n2=>(rec .exp d n2).bind fun e n3=>(S.need [101,110,100] n3).bind fun _ n4=>.ok (node 35 n n4 [] [ds,e]) n4
 else plainO S F 28 (rec .exp d) n
def jJ:Nat→List Pb→Nat→Out (List Pb)
 | 0,_,_=>.dry
 | f+1,acc,n=>bif S.begins [[108,101,116]] n then (iZ S F rec d n).bind fun b n1=>jJ f (acc++[b]) n1 else .ok acc n
def lK (n:Nat):Out Pb:=(iZ S F rec d n).bind fun b n1=>(jJ S F rec d F [b] n1).bind fun l n2=>.ok (fB l 36 n n2 []) n2
def jG:Nat→List Nat→List Pb→Nat→Out (List Nat × List Pb)
 | 0,_,_,_=>.dry
 | f+1,sg,acc,n=>bif S.kd n == 9 then (S.take [9] n).bind fun m n1=>(lK S F rec d n1).bind fun b n2=>jG f (sg++[m]) (acc++[b]) n2 else .ok (sg,acc) n
def iK (n:Nat):Out Pb:=(lK S F rec d n).bind fun b n1=>(jG S F rec d F [] [b] n1).bind fun l n2=>.ok (fB l.2 37 n n2 l.1) n2
def gy (k:Int) (from_ n:Nat):Out Pb:=(rec .pat d n).bind fun p n1=>(S.need [61,62] n1).bind fun _ n2=>(rec .exp d n2).bind fun e n3=>.ok (node k from_ n3 [] [p,e]) n3
def yU (n:Nat):Out Pb:=gy S rec d 33 n n
def qE (n:Nat):Out Pb :=
 bif S.is n [105,102] then (rec .exp d (n+1)).bind fun a n1=>(S.need [116,104,101,110] n1).bind fun _ n2=>(rec .exp d n2).bind fun b n3=>(S.need [101,108,115,101] n3).bind fun _ n4=>(rec .exp d n4).bind fun c n5=>.ok (node 31 n n5 [] [a,b,c]) n5
 else bif S.is n [99,97,115,101] then (rec .exp d (n+1)).bind fun a n1=>(S.need [111,102] n1).bind fun _ n2=>(gK S F [124] (yU S rec d) n2).bind fun l n3=>.ok (node 32 n n3 [] ([a]++l)) n3
 else bif S.is n [102,110] then gy S rec d 34 n (n+1)
 else iK S F rec d n

-- names of types, datatypes
def lg:Nat→Nat→Out Unit
 | 0,_=>.dry
 | f+1,n=>bif S.is n [44] then (S.take [8] (n+1)).bind fun _ n1=>lg f n1 else .ok () n
def cO (n:Nat):Out Nat :=
 bif S.kd n == 8 then S.take [6] (n+1)
 else bif S.is n [40] then (S.take [8] (n+1)).bind fun _ n1=>(lg S F n1).bind fun _ n2=>(S.need [41] n2).bind fun _ n3=>S.take [6] n3
 else S.take [6] n
def o5 (n:Nat):Out Pb:=(S.take [7] n).bind fun m n1=>bif S.is n1 [111,102] then (rec .ty d (n1+1)).bind fun b n2=>.ok (node 9 n n2 [m] [b]) n2 else .ok (node 9 n n1 [m] []) n1
def iC (n:Nat):Out Pb:=(cO S F n).bind fun m n1=>(S.need [61] n1).bind fun _ n2=>(gK S F [124] (o5 S rec d) n2).bind fun l n3=>.ok (node 8 n n3 [m] l) n3
def dh (from_ n:Nat):Out Pb:=(gK S F [97,110,100] (iC S F rec d) n).bind fun l n1=>.ok (node 7 from_ n1 [] l) n1

-- signatures
def l7 (n:Nat):Out Pb :=
 bif S.is n [118,97,108] then (S.value (n+1)).bind fun m n1=>(S.need [58] n1).bind fun _ n2=>(rec .ty d n2).bind fun b n3=>.ok (node 22 n n3 [m] [b]) n3
 else bif S.is n [116,121,112,101] then (cO S F (n+1)).bind fun m n1=>bif S.is n1 [61] then (rec .ty d (n1+1)).bind fun b n2=>.ok (node 23 n n2 [m] [b]) n2 else .ok (node 23 n n1 [m] []) n1
 else bif S.is n [100,97,116,97,116,121,112,101] then dh S F rec d n (n+1)
 else bif S.is n [115,116,114,117,99,116,117,114,101] then (S.take [7] (n+1)).bind fun m n1=>(S.need [58] n1).bind fun _ n2=>(rec .sig d n2).bind fun b n3=>.ok (node 24 n n3 [m] [b]) n3
 else (S.need [105,110,99,108,117,100,101] n).bind fun _ n1=>(rec .sig d n1).bind fun b n2=>.ok (node 25 n n2 [] [b]) n2
def jf:Nat→List Pb→Nat→Out (List Pb)
 | 0,_,_=>.dry
 | f+1,acc,n=>bif S.is n [101,110,100] then .ok acc (n+1)
  else bif S.is n [59] then jf f acc (n+1)
  else (l7 S F rec d n).bind fun b n1=>jf f (acc++[b]) n1
def fC (n:Nat):Out Pb:=bif S.is n [115,105,103] then (jf S F rec d F [] (n+1)).bind fun l n1=>.ok (node 19 n n1 [] l) n1
 else (S.take [7] n).bind fun m n1=>.ok (node 20 n n1 [m] []) n1
def jE (from_:Nat):Nat→Pb→Nat→Out Pb
 | 0,_,_=>.dry
 | f+1,b,n=>bif S.is n [119,104,101,114,101] then (S.need [116,121,112,101] (n+1)).bind fun _ n1=>(S.typePath n1).bind fun p n2=>(S.need [61] n2).bind fun _ n3=>(rec .ty d n3).bind fun c n4=>jE from_ f (node 21 from_ n4 p [b,c]) n4 else .ok b n
def qQ (n:Nat):Out Pb:=(fC S F rec d n).bind fun b n1=>jE S rec d n F b n1

-- structures
def fF (n:Nat):Out Pb :=
 bif S.is n [115,116,114,117,99,116] then (iy S F rec d 1 (n+1)).bind fun l n1=>(S.need [101,110,100] n1).bind fun _ n2=>.ok (node 15 n n2 [] l) n2
 else bif S.kd n == 7 && S.is (n+1) [40] then (rec .str d (n+2)).bind fun b n1=>(S.need [41] n1).bind fun _ n2=>.ok (node 17 n n2 [n] [b]) n2
 else (S.path [7] n).bind fun p n1=>.ok (node 16 n n1 p []) n1
def nH (from_:Nat):Nat→Pb→Nat→Out Pb
 | 0,_,_=>.dry
 | f+1,b,n=>bif (S.colon n).1 == 0 then .ok b n else (rec .sig d (n+1)).bind fun s n1=>nH from_ f (marked ((S.colon n).1:Int) (node 18 from_ n1 [] [b,s])) n1
def qN (n:Nat):Out Pb:=(fF S F rec d n).bind fun b n1=>nH S rec d n F b n1
def lu (n:Nat):Out (Nat × List Pb) :=
 (bif (S.colon n).1 == 0 then (.ok [] n:Out (List Pb)) else (rec .sig d (n+1)).bind fun b n1=>.ok [b] n1).bind fun l n1=>(S.need [61] n1).bind fun _ n2=>(rec .str d n2).bind fun b n3=>.ok ((S.colon n).1,l++[b]) n3
def dN (from_ n:Nat):Out Pb:=(S.take [7] n).bind fun m n1=>(lu S rec d n1).bind fun l n2=>.ok (marked (l.1:Int) (node 10 from_ n2 [m] l.2)) n2
def fG (from_ n:Nat):Out Pb:=(S.take [7] n).bind fun m n1=>(S.need [40] n1).bind fun _ n2=>(S.take [7] n2).bind fun p n3=>(S.need [58] n3).bind fun _ n4=>(rec .sig d n4).bind fun g n5=>(S.need [41] n5).bind fun _ n6=>(lu S rec d n6).bind fun l n7=>.ok (marked (l.1:Int) (node 12 from_ n7 [m,p] ([g]++l.2))) n7

-- declarations
def tC:Nat→List Pb→Nat→Out (List Pb)
 | 0,_,_=>.dry
 | f+1,acc,n=>bif S.begins [[95]] n then (bZ S F rec d n).bind fun b n1=>tC f (acc++[b]) n1 else .ok acc n
def dM (n:Nat):Out Pb:=(S.value n).bind fun m n1=>(bZ S F rec d n1).bind fun b n2=>(tC S F rec d F [b] n2).bind fun l n3=>(S.need [61] n3).bind fun _ n4=>(rec .exp d n4).bind fun e n5=>.ok (node 5 n n5 [m] (l++[e])) n5
def jg (from_ at_ n:Nat):Out Pb:=(gz S F rec d at_ n).bind fun a n1=>(S.need [105,110] n1).bind fun _ n2=>(gz S F rec d at_ n2).bind fun b n3=>(S.need [101,110,100] n3).bind fun _ n4=>.ok (node 14 from_ n4 [] [a,b]) n4
def qG (at_ n:Nat):Out Pb :=
 bif S.is n [118,97,108] then (rec .pat d (n+1)).bind fun p n1=>(S.need [61] n1).bind fun _ n2=>(rec .exp d n2).bind fun e n3=>.ok (node 3 n n3 [] [p,e]) n3
 else bif S.is n [102,117,110] then (gK S F [97,110,100] (dM S F rec d) (n+1)).bind fun l n1=>.ok (node 4 n n1 [] l) n1
 else bif S.is n [116,121,112,101] then (cO S F (n+1)).bind fun m n1=>(S.need [61] n1).bind fun _ n2=>(rec .ty d n2).bind fun b n3=>.ok (node 6 n n3 [m] [b]) n3
 else bif S.is n [100,97,116,97,116,121,112,101] then dh S F rec d n (n+1)
 else bif S.is n [115,116,114,117,99,116,117,114,101] then dN S rec d n (n+1)
 else bif S.is n [115,105,103,110,97,116,117,114,101] then (S.take [7] (n+1)).bind fun m n1=>(S.need [61] n1).bind fun _ n2=>(rec .sig d n2).bind fun b n3=>.ok (node 11 n n3 [m] [b]) n3
 else bif S.is n [102,117,110,99,116,111,114] then fG S rec d n (n+1)
 else bif S.is n [111,112,101,110] then (S.path [7] (n+1)).bind fun p n1=>.ok (node 13 n n1 p []) n1
 else jg S F rec d n at_ (n+1)
def Tq:Nt→Nat→Out Pb
 | .exp,n=>qE S F rec d n
 | .pat,n=>qL S F rec d n
 | .ty,n=>tyO S F rec d n
 | .sig,n=>qQ S F rec d n
 | .str,n=>qN S F rec d n
 | .dec at_,n=>qG S F rec d at_ n
end
def parts (S:Src):Nat→Nt→Nat→Nat→Out Pb
 | 0,_,_,_=>.dry
 | f+1,nt,d,n=>bif d == 256 then .deep n else Tq S f (parts S f) (d+1) nt n
def jq (S:Src) (F:Nat) (n:Nat):Out Pb:=(iy S F (parts S F) 0 2 n).bind fun l n1=>.ok (node 1 0 n1 [] l) n1
def gJ (S:Src) (o:Out Pb):Out Pb:=o.bind fun b n=>bif S.kd n == 0 then .ok b n else .form n
end Go.Proofs.YtmpmfamiegpmgaaGreatDoor

namespace Go.Proofs.YtmpmfamiegpmgaaGreatDoor
open Tryz
open Go.Lib (hid toList_data)
open Go.RowKit
set_option linter.unusedVariables false
set_option linter.unusedSimpArgs false

def Ends {α:Type} (S:Src) (d:Nat) (w:World) (o:Out α) (R:α→Value→World→Prop) (e:Ending) (w':World):Prop :=
 (∃ x n v,o=.ok x n∧e=.returned v∧R x v w'∧Rd w' S n d∧w.grownBy w' (some S.g))∨(∃ ch,o.pan S=some ch∧e=.panicked ch∧w.grownBy w' (some S.g))
theorem ae {w w1 w2:World} {r:Option Nat} (h:w.grownBy w1 r) (k:w1.grownBy w2 r):w.grownBy w2 r :=
 ⟨k.os.trans h.os,k.tape.trans h.tape,k.output.trans h.output,Nat.le_trans h.size k.size,fun j hj hn=>(k.block j (Nat.lt_of_lt_of_le hj h.size) hn).trans (h.block j hj hn)⟩
theorem dU (w:World) (r:Option Nat):w.grownBy w r:=⟨rfl,rfl,rfl,Nat.le_refl _,fun _ _ _=>rfl⟩
theorem grown_below {w w1:World} (h:Below w.heap.size w w1) (r:Option Nat):w.grownBy w1 r:=⟨h.os,h.tape,h.output,h.size,fun j hj _=>h.block j hj⟩
theorem aN {w:World} (g o:Nat) (u:Value):w.grownBy (w.setCell ⟨g,o,none⟩ u) (some g) :=
 ⟨rfl,rfl,rfl,by simp,fun k hk hne=>Below.heap_setCell _ _ _ _ (fun e=>hne (by rw [e]))⟩
theorem Rd.more {w:World} {S:Src} {n d:Nat} (h:Rd w S n d) {t:List UInt8} (ht:t≠[]) (hi:S.is n t=true):n+1 < S.ts.length:=by
 have hl:=h.here
 rcases Nat.lt_or_ge (n+1) S.ts.length with h1 | h1
 ·exact h1
 ·exfalso
  have hk:=(h.good.fin n hl).2 (by omega);have he:=h.good.endt _ (List.getElem_mem hl) hk;unfold Src.is at hi;rw [S.tx_at hl,he] at hi
  have:(S.s.extract S.ts[n].e S.ts[n].e).data.toList=[]:=by
   apply List.eq_nil_of_length_eq_zero
   have h3:(S.s.extract S.ts[n].e S.ts[n].e).size=0:=by simp
   rw [← h3]; rfl
  rw [this] at hi
  cases t with
  | nil=>exact ht rfl
  | cons a r=>simp at hi
theorem Rd.moreK {w:World} {S:Src} {n d:Nat} (h:Rd w S n d) (hk:S.kd n≠0):n+1 < S.ts.length:=by
 have hl:=h.here
 rcases Nat.lt_or_ge (n+1) S.ts.length with h1 | h1
 ·exact h1
 ·exact absurd ((S.kd_at hl).trans ((h.good.fin n hl).2 (by omega))) hk
theorem Rd.bump {w:World} {S:Src} {n d:Nat} (h:Rd w S n d) (hn:n+1 < S.ts.length):Rd (w.setCell ⟨S.g,2,none⟩ (.int .i64 ((n:Int)+1))) S (n+1) d:=by
 have hne:S.gw≠S.g:=h.good.apart;refine ⟨h.good,hn,?_,by simpa using h.row,fun i hi=>?_,h.deep⟩
 ·rw [heap_setCell_same w S.g 2 _ _ _ h.box]
  have e:((n+1:Nat):Int)=(n:Int)+1:=by omega
  rw [e]; rfl
 ·obtain ⟨t0,t1,t2⟩:=h.toks i hi
  have far:∀ o,(w.setCell ⟨S.g,2,none⟩ (.int .i64 ((n:Int)+1))).cell? ⟨S.gw,o,none⟩=w.cell? ⟨S.gw,o,none⟩:=fun o=>World.cell?_of_block (Below.heap_setCell _ _ _ _ hne)
  exact ⟨(far _).trans t0,(far _).trans t1,(far _).trans t2⟩
theorem Rd.bound {w:World} {S:Src} {n d:Nat} (h:Rd w S n d):n≤1000000:=by have:=h.here; have:=h.good.len; omega

theorem nC (S:Src) (n d:Nat) (w:World) (h:Rd w S n d):Calls prog 119 #[.pointer (some ⟨S.g,0,none⟩),.bool true] w fun e w'=>e=.returned (.tuple #[])∧w=w':=by
 go_enter func119,ntmps119
 go_wp2_with fail
 go_end0
 exact ⟨rfl,rfl⟩
theorem oO (S:Src) (n d:Nat) (w:World) (h:Rd w S n d):Calls prog 119 #[.pointer (some ⟨S.g,0,none⟩),.bool false] w fun e w'=>e=.panicked [{ v:=.iface 194 (.int .i64 (S.pl n)),recovered:=false }]∧Below w.heap.size w w':=by
 have H:=hid (vM S n d w h);clear h
 go_enter func119,ntmps119
 go_wp2_with fail
 refine H.out.mono ?_
 rintro e w1 ⟨rfl,hb⟩;have HB:=hid hb;clear hb
 go_wp2_with fail
 exact ⟨rfl,rfl,HB.out⟩
theorem aC (S:Src) (n d:Nat) (t:ByteArray) (w:World) (h:Rd w S n d) (ht:t.data.toList≠[]) :
  Calls prog 172 #[.pointer (some ⟨S.g,0,none⟩),.string t] w fun e w'=>e=.returned (.bool (S.is n t.data.toList))∧Rd w' S (bif S.is n t.data.toList then n+1 else n) d∧w.grownBy w' (some S.g):=by
 have H:=hid (dF S n d n w h h.here);have HR:=hid h;have c2:=h.c2;have hb:=h.bound;have e:S.is n t.data.toList=((S.tx n).toList == t.toList):=by unfold Src.is; rw [toList_data,toList_data]
 have HM:=hid (fun hi=>h.more ht hi)
 cases hi:S.is n t.data.toList
 ·rw [hi] at e
  have HE:=e.symm;clear h e hi HM;generalize S.tx n=x at *
  go_enter func172,ntmps172
  go_wp2_with fail
  refine H.out.mono ?_
  rintro e w1 ⟨rfl,hb⟩;have HB:=hid hb;clear hb
  go_wp2_with fail
  go_ret
  exact ⟨rfl,HR.out.step HB.out,grown_below HB.out _⟩
 ·have hm:=HM.out hi
  rw [hi] at e;have HE:=e.symm;clear h e hi HM;generalize S.tx n=x at *
  go_enter func172,ntmps172
  go_wp2_with fail
  refine H.out.mono ?_
  rintro e w1 ⟨rfl,hb⟩;have HR1:=hid (HR.out.step hb);have d2:=HR1.out.c2;have f2:=HR1.out.free 2;have HB:=hid hb;clear hb
  go_wp2_with fail
  go_ret
  exact ⟨rfl,HR1.out.bump hm,ae (grown_below HB.out _) (aN _ _ _)⟩
end Go.Proofs.YtmpmfamiegpmgaaGreatDoor

namespace Go.Proofs.YtmpmfamiegpmgaaGreatDoor
open Tryz
open Go.Lib (hid)
open Go.RowKit
set_option maxRecDepth 20000
set_option linter.unusedVariables false
set_option linter.unusedSimpArgs false

def nJ (ks:List Int) (v:Int):Bool:=ks.contains v
set_option maxHeartbeats 400000 in
theorem EG (ks:List Int) (v:Int) (b c:Nat) (w:World) (hat:jB w b ks) (hc:ks.length≤c) (hm:ks.length≤1000) :
  Calls prog 99 #[.slice (some ⟨b,0,none⟩) ks.length c,.int .i64 v] w fun e w'=>(∃ r:Int,e=.returned (.int .i64 r)∧decide (0≤r)=nJ ks v)∧w=w':=by
 have HA:=hid hat
 clear hat
 obtain ⟨n,hn⟩:∃ n,n=ks.length:=⟨_,rfl⟩
 rw [← hn] at hc hm ⊢;have HN:=hid hn;clear hn
 go_enter func99,ntmps99
 go_wp2
 go_loop [8] (fun i=>∃ k:Nat,k≤n∧i=.int .i64 k∧Hid (∀ j,(h:j < ks.length)→j < k→ks[j]≠v)) (fun i=>n - (intOf i).toNat)
 case atStart=>exact ⟨0,by omega,rfl,hid (fun j _ h=>by omega)⟩
 case round =>
  obtain ⟨k,hk,rfl,HJ⟩:=hrel
  by_cases hlt:k < n
  ·have hkl:k < ks.length:=by rw [← HN.out]; exact hlt
   have hcell:w.cell? ⟨b,k,none⟩=some (.int .i64 ks[k]):=HA.out k hkl;have h0:(0:Int)≤(k:Int):=by omega
   have h1:(k:Int) < (n:Int):=by omega
   by_cases he:v=ks[k]
   ·have HB:Hid (decide (0≤(k:Int))=nJ ks v):=hid (by
     have:nJ ks v=true:=by unfold nJ; rw [he]; exact List.contains_iff_mem.2 (List.getElem_mem hkl)
     rw [this]; simp)
    generalize ks[k]=x at *;subst he
    go_wp2
    go_ret
    exact ⟨⟨_,rfl,HB.out⟩,rfl⟩
   ·have HJ2:Hid (∀ j,(h:j < ks.length)→j < k+1→ks[j]≠v):=hid fun j h hj=>by
     rcases Nat.lt_or_ge j k with h3 | h3
     ·exact HJ.out j h h3
     ·obtain rfl:j=k:=by omega
      exact fun e=>he e.symm
    have he2:(v == ks[k])=false:=by simpa using he
    generalize ks[k]=x at *
    go_wp2
    go_round
    case rel=>exact ⟨k+1,by omega,by go_num,HJ2⟩
    case measure=>simp [intOf]; omega
  ·have HB:Hid (decide ((0:Int)≤-1)=nJ ks v):=hid (by
    have:nJ ks v=false:=by
     unfold nJ;rw [Bool.eq_false_iff];intro h;obtain ⟨j,hj,e⟩:=List.getElem_of_mem (List.contains_iff_mem.1 h);exact HJ.out j hj (by rw [← HN.out] at hj; omega) e
    rw [this]; rfl)
   go_wp2
   go_ret
   exact ⟨⟨_,rfl,HB.out⟩,rfl⟩
theorem LD (ks:List Int) (v:Int) (b c:Nat) (w:World) (hat:jB w b ks) (hc:ks.length≤c) (hm:ks.length≤1000) :
  Calls prog 59 #[.slice (some ⟨b,0,none⟩) ks.length c,.int .i64 v] w fun e w'=>e=.returned (.bool (ks.contains v))∧w=w':=by
 have H:=hid (EG ks v b c w hat hc hm);clear hat
 generalize ks.length=n at *
 change Calls _ _ _ _ (fun e w'=>e=.returned (.bool (nJ ks v))∧w=w')
 generalize nJ ks v=q at *
 go_enter func59,ntmps59
 go_wp2_with fail
 refine H.out.mono ?_
 rintro e w1 ⟨⟨r,rfl,hr⟩,rfl⟩;have HR:=hid hr;clear hr
 go_wp2_with fail
 go_ret
 exact ⟨aK HR.out,rfl⟩
def jY (w:World) (g:Nat) (l:List ByteArray):Prop:=∀ i,(h:i < l.length)→w.cell? ⟨g,i,none⟩=some (.string l[i])
def wY (l:List ByteArray) (t:ByteArray):Bool:=l.any fun x=>t.toList == x.toList
set_option maxHeartbeats 400000 in
theorem Eg (ks:List ByteArray) (v:ByteArray) (b c:Nat) (w:World) (hat:jY w b ks) (hc:ks.length≤c) (hm:ks.length≤1000) :
  Calls prog 310 #[.slice (some ⟨b,0,none⟩) ks.length c,.string v] w fun e w'=>(∃ r:Int,e=.returned (.int .i64 r)∧decide (0≤r)=wY ks v)∧w=w':=by
 have HA:=hid hat
 clear hat
 obtain ⟨n,hn⟩:∃ n,n=ks.length:=⟨_,rfl⟩
 rw [← hn] at hc hm ⊢;have HN:=hid hn;clear hn
 go_enter func310,ntmps310
 go_wp2
 go_loop [8] (fun i=>∃ k:Nat,k≤n∧i=.int .i64 k∧Hid (∀ j,(h:j < ks.length)→j < k→(v.toList == ks[j].toList)=false)) (fun i=>n - (intOf i).toNat)
 case atStart=>exact ⟨0,by omega,rfl,hid (fun j _ h=>by omega)⟩
 case round =>
  obtain ⟨k,hk,rfl,HJ⟩:=hrel
  by_cases hlt:k < n
  ·have hkl:k < ks.length:=by rw [← HN.out]; exact hlt
   have hcell:w.cell? ⟨b,k,none⟩=some (.string ks[k]):=HA.out k hkl;have h0:(0:Int)≤(k:Int):=by omega
   have h1:(k:Int) < (n:Int):=by omega
   cases he:(v.toList == ks[k].toList)
   ·have HJ2:Hid (∀ j,(h:j < ks.length)→j < k+1→(v.toList == ks[j].toList)=false):=hid fun j h hj=>by
     rcases Nat.lt_or_ge j k with h3 | h3
     ·exact HJ.out j h h3
     ·obtain rfl:j=k:=by omega
      exact he
    generalize ks[k]=x at *
    go_wp2
    go_round
    case rel=>exact ⟨k+1,by omega,by go_num,HJ2⟩
    case measure=>simp [intOf]; omega
   ·have HB:Hid (decide (0≤(k:Int))=wY ks v):=hid (by
     have:wY ks v=true:=List.any_eq_true.2 ⟨ks[k],List.getElem_mem hkl,he⟩
     rw [this]; simp)
    generalize ks[k]=x at *
    go_wp2
    go_ret
    exact ⟨⟨_,rfl,HB.out⟩,rfl⟩
  ·have HB:Hid (decide ((0:Int)≤-1)=wY ks v):=hid (by
    have:wY ks v=false:=by
     rw [Bool.eq_false_iff];intro h;obtain ⟨x,hx,hxe⟩:=List.any_eq_true.1 h;obtain ⟨j,hj,rfl⟩:=List.getElem_of_mem hx;rw [HJ.out j hj (by rw [← HN.out] at hj; omega)] at hxe
     cases hxe
    rw [this]; rfl)
   go_wp2
   go_ret
   exact ⟨⟨_,rfl,HB.out⟩,rfl⟩
theorem LZ (ks:List ByteArray) (v:ByteArray) (b c:Nat) (w:World) (hat:jY w b ks) (hc:ks.length≤c) (hm:ks.length≤1000) :
  Calls prog 304 #[.slice (some ⟨b,0,none⟩) ks.length c,.string v] w fun e w'=>e=.returned (.bool (wY ks v))∧w=w':=by
 have H:=hid (Eg ks v b c w hat hc hm);clear hat
 generalize ks.length=n at *;generalize wY ks v=q at *
 go_enter func304,ntmps304
 go_wp2_with fail
 refine H.out.mono ?_
 rintro e w1 ⟨⟨r,rfl,hr⟩,rfl⟩;have HR:=hid hr;clear hr
 go_wp2_with fail
 go_ret
 exact ⟨aK HR.out,rfl⟩

def RU:Unit→Value→World→Prop:=fun _ v _=>v=.tuple #[]
def RN:Nat→Value→World→Prop:=fun m v _=>v=.int .i64 (m:Int)
theorem bF (S:Src) (n d:Nat) (t:ByteArray) (w:World) (h:Rd w S n d) (ht:t.data.toList≠[]) :
  Calls prog 231 #[.pointer (some ⟨S.g,0,none⟩),.string t] w fun e w'=>Ends S d w (S.need t.data.toList n) RU e w':=by
 have H:=hid (aC S n d t w h ht);clear h;unfold Src.need
 cases hi:S.is n t.data.toList <;> rw [hi] at H
 ·go_enter func231,ntmps231
  go_wp2_with fail
  refine H.out.mono ?_
  rintro e w1 ⟨rfl,hr,hg⟩;have HG:=hid hg;have HX:=hid (oO S n d w1 hr);clear hr hg
  go_wp2_with fail
  refine HX.out.mono ?_
  rintro e w2 ⟨rfl,hb⟩;exact ⟨rfl,Or.inr ⟨_,rfl,rfl,ae HG.out (grown_below hb _)⟩⟩
 ·go_enter func231,ntmps231
  go_wp2_with fail
  refine H.out.mono ?_
  rintro e w1 ⟨rfl,hr,hg⟩;have HG:=hid hg;have HR:=hid hr;have HX:=hid (nC S (n+1) d w1 hr);clear hr hg
  go_wp2_with fail
  refine HX.out.mono ?_
  rintro e w2 ⟨rfl,rfl⟩
  go_wp2_with fail
  go_end0
  exact Or.inl ⟨(),n+1,_,rfl,rfl,rfl,HR.out,HG.out⟩
theorem yx (S:Src) (n d:Nat) (ks:List Int) (b c:Nat) (w:World) (h:Rd w S n d) (hat:jB w b ks) (hb:b < w.heap.size) (hc:ks.length≤c) (hm:ks.length≤1000) (hz:ks.contains 0=false) :
  Calls prog 239 #[.pointer (some ⟨S.g,0,none⟩),.slice (some ⟨b,0,none⟩) ks.length c] w fun e w'=>Ends S d w (S.take ks n) RN e w':=by
 have H:=hid (bG S n d w h);have HR:=hid h;have HI:=hid (fun w' (hw:Below w.heap.size w w')=>LD ks (S.kd n) b c w' (fun i hi=>(hw.cell (p:=⟨b,_,none⟩) hb).trans (hat i hi)) hc hm);have hk:ks.contains (S.kd n)=true→S.kd n≠0:=fun h1 h2=>by rw [h2,hz] at h1; cases h1
 have HK:=hid hk;have hbd:=h.bound;unfold Src.take;clear hat h hk hz;generalize ks.length=nl at *
 cases hi:ks.contains (S.kd n) <;> rw [hi] at HI HK
 ·generalize S.kd n=kn at *
  go_enter func239,ntmps239
  go_wp2_with fail
  refine H.out.mono ?_
  rintro e w1 ⟨rfl,hb1⟩;have HB:=hid hb1;clear hb1
  go_wp2_with fail
  refine (HI.out _ HB.out).mono ?_
  rintro e w2 ⟨rfl,rfl⟩;have HX:=hid (oO S n d w1 (HR.out.step HB.out))
  go_wp2_with fail
  refine HX.out.mono ?_
  rintro e w2 ⟨rfl,hb2⟩;exact ⟨rfl,Or.inr ⟨_,rfl,rfl,grown_below (HB.out.trans (hb2.mono HB.out.size)) _⟩⟩
 ·have hmore:=HR.out.moreK (HK.out rfl)
  generalize S.kd n=kn at *
  go_enter func239,ntmps239
  go_wp2_with fail
  refine H.out.mono ?_
  rintro e w1 ⟨rfl,hb1⟩;have HB:=hid hb1;clear hb1
  go_wp2_with fail
  refine (HI.out _ HB.out).mono ?_
  rintro e w2 ⟨rfl,rfl⟩;have HR1:=hid (HR.out.step HB.out);have HX:=hid (nC S n d w1 HR1.out);have d2:=HR1.out.c2;have f2:=HR1.out.free 2
  go_wp2_with fail
  refine HX.out.mono ?_
  rintro e w2 ⟨rfl,rfl⟩
  go_wp2_with fail
  have F9:=hid (HR1.out.bump hmore);have e2:=F9.out.c2
  go_wp2_with fail
  go_ret
  exact Or.inl ⟨n,n+1,_,rfl,rfl,rfl,F9.out,ae (grown_below HB.out _) (aN _ _ _)⟩
end Go.Proofs.YtmpmfamiegpmgaaGreatDoor

namespace Go.Proofs.YtmpmfamiegpmgaaGreatDoor
open Tryz
open Go.Lib (cell_of_heap hid toList_data)
open Go.RowKit
set_option maxRecDepth 20000
set_option linter.unusedVariables false
set_option linter.unusedSimpArgs false

theorem Ends.base {α:Type} {S:Src} {d:Nat} {w w1:World} {o:Out α} {R:α→Value→World→Prop} {e:Ending} {w':World} (h:Ends S d w1 o R e w') (hg:w.grownBy w1 (some S.g)):Ends S d w o R e w':=by
 rcases h with ⟨x,n,v,h1,h2,h3,h4,h5⟩ | ⟨ch,h1,h2,h3⟩
 ·exact Or.inl ⟨x,n,v,h1,h2,h3,h4,ae hg h5⟩
 ·exact Or.inr ⟨ch,h1,h2,ae hg h3⟩
theorem Ends.noOut {α:Type} {S:Src} {d:Nat} {w:World} {o:Out α} {R:α→Value→World→Prop} {w':World}:¬ Ends S d w o R .outgrown w':=by
 rintro (⟨x,n,v,h1,h2,_⟩ | ⟨ch,h1,h2,_⟩) <;> cases h2
theorem Jt {w:World} {a b:Int} {t:TypeId}:jB (w.alloc (.cells #[.int .i64 a,.int .i64 b] t)) w.heap.size [a,b]:=fun i hi=>by
 have hb:=heap_alloc_new w (.cells #[.int .i64 a,.int .i64 b] t)
 match i,hi with
 | 0,_=>rw [cell_of_heap hb]; rfl
 | 1,_=>rw [cell_of_heap hb]; rfl
theorem cells_one {w:World} {a:Int} {t:TypeId}:jB (w.alloc (.cells #[.int .i64 a] t)) w.heap.size [a]:=fun i hi=>by
 have hb:=heap_alloc_new w (.cells #[.int .i64 a] t)
 match i,hi with
 | 0,_=>rw [cell_of_heap hb]; rfl
theorem take1 (S:Src) (n d:Nat) (k:Int) (hk:k≠0) (w:World) (h:Rd w S n d) :
  Calls prog 239 #[.pointer (some ⟨S.g,0,none⟩),.slice (some ⟨w.heap.size,0,none⟩) 1 1] (w.alloc (.cells #[.int .i64 k] 3)) fun e w'=>Ends S d w (S.take [k] n) RN e w':=by
 have hb:Below w.heap.size w (w.alloc (.cells #[.int .i64 k] 3)):=(Below.refl w.heap.size w).alloc (Nat.le_refl _) _;exact (yx S n d [k] w.heap.size 1 _ (h.step hb) cells_one (by simp) (by simp) (by simp) (by simpa using fun e:0=k=>hk e.symm)).mono fun e w' he=>he.base (grown_below hb _)

theorem qf (S:Src) (n d:Nat) (w:World) (h:Rd w S n d) :
  Calls prog 275 #[.pointer (some ⟨S.g,0,none⟩)] w fun e w'=>Ends S d w (S.value n) RN e w':=by
 have H:=hid (aC S n d ⟨#[111,112]⟩ w h (by simp));clear h;unfold Src.value
 simp only at H
 cases hi:S.is n [111,112] <;> rw [hi] at H
 ·go_enter func275,ntmps275
  go_wp2_with fail
  refine H.out.mono ?_
  rintro e w1 ⟨rfl,hr,hg⟩;have HG:=hid hg;have HX:=hid (take1 S n d 6 (by decide) w1 hr);clear hr hg
  go_wp2_with fail
  refine HX.out.mono ?_
  rintro e w2 (⟨x,m,v,ho,rfl,hv,hr,hg⟩ | ⟨ch,ho,rfl,hg⟩)
  ·obtain rfl:v=.int .i64 (x:Int):=hv
   have HE:=hid (And.intro ho (And.intro hr (ae HG.out hg)));clear ho hr hg
   go_wp2_with fail
   go_ret
   exact Or.inl ⟨x,m,_,HE.out.1,rfl,rfl,HE.out.2.1,HE.out.2.2⟩
  ·exact ⟨rfl,Or.inr ⟨ch,ho,rfl,ae HG.out hg⟩⟩
 ·go_enter func275,ntmps275
  go_wp2_with fail
  refine H.out.mono ?_
  rintro e w1 ⟨rfl,hr,hg⟩;have HG:=hid hg;have HX:=hid (take1 S (n+1) d 9 (by decide) w1 hr);clear hr hg
  go_wp2_with fail
  refine HX.out.mono ?_
  rintro e w2 (⟨x,m,v,ho,rfl,hv,hr,hg⟩ | ⟨ch,ho,rfl,hg⟩)
  ·obtain rfl:v=.int .i64 (x:Int):=hv
   have HE:=hid (And.intro ho (And.intro hr (ae HG.out hg)));clear ho hr hg
   go_wp2_with fail
   go_ret
   exact Or.inl ⟨x,m,_,HE.out.1,rfl,rfl,HE.out.2.1,HE.out.2.2⟩
  ·exact ⟨rfl,Or.inr ⟨ch,ho,rfl,ae HG.out hg⟩⟩

def rZ (S:Src) (n:Nat) (l:List ByteArray):Bool:=wY l (S.tx n)
theorem Cm (S:Src) (n:Nat) (l:List ByteArray):rZ S n l=l.any fun t=>S.is n t.data.toList:=by
 unfold rZ wY Src.is
 congr 1
 funext x
 rw [toList_data,toList_data]
theorem Gv (S:Src) (n d:Nat) (l:List ByteArray) (b c:Nat) (w:World) (h:Rd w S n d) (hat:jY w b l) (hb:b < w.heap.size) (hc:l.length≤c) (hm:l.length≤1000) :
  Calls prog 296 #[.pointer (some ⟨S.g,0,none⟩),.slice (some ⟨b,0,none⟩) l.length c] w fun e w'=>e=.returned (.bool (rZ S n l))∧Below w.heap.size w w':=by
 have H:=hid (dF S n d n w h h.here);have HI:=hid (fun w' (hw:Below w.heap.size w w')=>LZ l (S.tx n) b c w' (fun i hi=>(hw.cell (p:=⟨b,_,none⟩) hb).trans (hat i hi)) hc hm);have c2:=h.c2;unfold rZ;clear hat h;generalize l.length=nl at *;generalize wY l (S.tx n)=q at *;generalize S.tx n=x at *
 go_enter func296,ntmps296
 go_wp2_with fail
 refine H.out.mono ?_
 rintro e w1 ⟨rfl,hb1⟩;have HB:=hid hb1;clear hb1
 go_wp2_with fail
 refine (HI.out _ HB.out).mono ?_
 rintro e w2 ⟨rfl,rfl⟩
 go_wp2_with fail
 go_ret
 exact ⟨rfl,HB.out⟩

set_option maxHeartbeats 1000000 in
theorem pU (S:Src) (n d:Nat) (w:World) (h:Rd w S n d) :
  Calls prog 300 #[.pointer (some ⟨S.g,0,none⟩)] w fun e w'=>e=.returned (.int .i64 ((S.colon n).1:Int))∧Rd w' S (S.colon n).2 d∧w.grownBy w' (some S.g):=by
 have H:=hid (aC S n d ⟨#[58]⟩ w h (by simp));clear h;unfold Src.colon
 simp only at H
 cases hi:S.is n [58] <;> rw [hi] at H
 ·cases hj:S.is n [58,62]
  all_goals
   go_enter func300,ntmps300
   go_wp2_with fail
   refine H.out.mono ?_
   rintro e w1 ⟨rfl,hr,hg⟩;have HG:=hid hg;have HX:=hid (aC S n d ⟨#[58,62]⟩ w1 hr (by simp));clear hr hg
   simp only at HX
   rw [hj] at HX
   go_wp2_with fail
   refine HX.out.mono ?_
   rintro e w2 ⟨rfl,hr,hg⟩;have HE:=hid (And.intro hr (ae HG.out hg));clear hr hg
   go_wp2_with fail
   go_ret
   exact ⟨rfl,HE.out⟩
 ·go_enter func300,ntmps300
  go_wp2_with fail
  refine H.out.mono ?_
  rintro e w1 ⟨rfl,hr,hg⟩;have HE:=hid (And.intro hr hg);clear hr hg
  go_wp2_with fail
  go_ret
  exact ⟨rfl,HE.out⟩
theorem ML {w:World} {a b:ByteArray} {t:TypeId}:jY (w.alloc (.cells #[.string a,.string b] t)) w.heap.size [a,b]:=fun i hi=>by
 have hb:=heap_alloc_new w (.cells #[.string a,.string b] t)
 match i,hi with
 | 0,_=>rw [cell_of_heap hb]; rfl
 | 1,_=>rw [cell_of_heap hb]; rfl
set_option maxHeartbeats 2000000 in
theorem sQ (S:Src) (n d:Nat) (l:List ByteArray) (b c:Nat) (w:World) (h:Rd w S n d) (hat:jY w b l) (hb:b < w.heap.size) (hc:l.length≤c) (hm:l.length≤1000) :
  Calls prog 269 #[.pointer (some ⟨S.g,0,none⟩),.slice (some ⟨b,0,none⟩) l.length c] w fun e w'=>e=.returned (.bool (S.begins (l.map fun t=>t.data.toList) n))∧Below w.heap.size w w':=by
 have hbe:S.begins (l.map fun t=>t.data.toList) n=(S.beginsK n || (rZ S n [⟨#[111,112]⟩,⟨#[40]⟩] || rZ S n l)):=by
  rw [Cm,Cm];unfold Src.begins;simp only [List.any_map,Function.comp_def,List.any_cons,List.any_nil,Bool.or_false,Bool.or_assoc]
 have H:=hid (bG S n d w h);have HR:=hid h;have HI2:=hid (fun w' (hw:Below w.heap.size w w')=>Gv S n d [⟨#[111,112]⟩,⟨#[40]⟩] w'.heap.size 2 (w'.alloc (.cells #[.string ⟨#[111,112]⟩,.string ⟨#[40]⟩] 9)) ((h.step hw).step ((Below.refl w'.heap.size w').alloc (Nat.le_refl _) _)) ML (by simp) (by simp) (by simp));have HI:=hid (fun w' (hw:Below w.heap.size w w')=>Gv S n d l b c w' (h.step hw) (fun i hi=>(hw.cell (p:=⟨b,_,none⟩) hb).trans (hat i hi)) (Nat.lt_of_lt_of_le hb hw.size) hc hm);rw [hbe];unfold Src.beginsK;clear hat h hbe;simp only [List.length_cons,List.length_nil] at HI2;generalize l.length=nl at *;generalize rZ S n l=q2 at *;generalize rZ S n [⟨#[111,112]⟩,⟨#[40]⟩]=q1 at *;generalize S.kd n=kn at *
 cases h4:(kn == 4) <;> cases h5:(kn == 5) <;> cases h6:(kn == 6) <;> cases h7:(kn == 7)
 case false.false.false.false =>
  cases q1
  ·go_enter func269,ntmps269
   go_wp2_with fail
   refine H.out.mono ?_
   rintro e w1 ⟨rfl,hb1⟩;have HB:=hid hb1;clear hb1
   go_wp2_with fail
   refine (HI2.out _ HB.out).mono ?_
   rintro e w2 ⟨rfl,hb2⟩;have HB2:Hid (Below w.heap.size w w2):=hid ((HB.out.alloc HB.out.size _).trans (hb2.mono (by have:=HB.out.size; simp; omega)));clear hb2
   go_wp2_with fail
   refine (HI.out _ HB2.out).mono ?_
   rintro e w3 ⟨rfl,hb3⟩;have HB3:=hid (HB2.out.trans (hb3.mono HB2.out.size));clear hb3
   go_wp2_with fail
   go_ret
   exact ⟨by simp,HB3.out⟩
  ·go_enter func269,ntmps269
   go_wp2_with fail
   refine H.out.mono ?_
   rintro e w1 ⟨rfl,hb1⟩;have HB:=hid hb1;clear hb1
   go_wp2_with fail
   refine (HI2.out _ HB.out).mono ?_
   rintro e w2 ⟨rfl,hb2⟩;have HB2:Hid (Below w.heap.size w w2):=hid ((HB.out.alloc HB.out.size _).trans (hb2.mono (by have:=HB.out.size; simp; omega)));clear hb2
   go_wp2_with fail
   go_ret
   exact ⟨by simp,HB2.out⟩
 all_goals
  clear HI HI2
  go_enter func269,ntmps269
  go_wp2_with fail
  refine H.out.mono ?_
  rintro e w1 ⟨rfl,hb1⟩;have HB:=hid hb1;clear hb1
  go_wp2_with fail
  go_ret
  exact ⟨by simp,HB.out⟩
end Go.Proofs.YtmpmfamiegpmgaaGreatDoor
