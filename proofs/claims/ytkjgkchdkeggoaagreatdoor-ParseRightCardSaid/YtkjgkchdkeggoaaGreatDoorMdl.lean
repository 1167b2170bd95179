/-
  The parser, as a plain function of a text's tokens: what each of its calls comes to.
-/
import Derived.Test.YtkjgkchdkeggoaaGreatDoorRd
namespace Go.Proofs.YtkjgkchdkeggoaaGreatDoor
open Go.RowKit
set_option linter.unusedVariables false
set_option linter.unusedSimpArgs false

/-- What a call comes to: a value, and the token that is next; a token that can't stand there; a part that would lie too deep; more rounds than were given. -/
inductive Out (α : Type) where
  | ok (a : α) (n : Nat)
  | form (n : Nat)
  | deep (n : Nat)
  | dry
def Out.bind {α β : Type} (o : Out α) (f : α → Nat → Out β) : Out β := match o with
  | .ok a n => f a n
  | .form n => .form n
  | .deep n => .deep n
  | .dry => .dry
/-- What is thrown. -/
def Out.pan {α : Type} (S : Src) : Out α → Option (List PanicEntry)
  | .form n => some [{ v := .iface 63 (.int .i64 (S.pl n)), recovered := false }]
  | .deep n => some [{ v := .iface 64 (.int .i64 (S.pl n)), recovered := false }]
  | _ => none
theorem pan_bind {α β : Type} {S : Src} {o : Out α} {f : α → Nat → Out β} {ch : List PanicEntry} (h : o.pan S = some ch) : (o.bind f).pan S = some ch := by
  cases o <;> simp_all [Out.pan, Out.bind]
theorem bind_dry {α β : Type} {o : Out α} {f : α → Nat → Out β} (h : o.bind f ≠ .dry) : o ≠ .dry := by
  intro e; subst e; exact h rfl

/-- A branch as such. -/
inductive Pb where
  | mk (k m f t : Int) (ns : List Int) (ks : List Pb)

namespace Src
variable (S : Src)
/-- Is token n this text? -/
def is (n : Nat) (t : List UInt8) : Bool := (S.tx n).data.toList == t
def need (t : List UInt8) (n : Nat) : Out Unit := bif S.is n t then .ok () (n + 1) else .form n
def take (ks : List Int) (n : Nat) : Out Nat := bif ks.contains (S.kd n) then .ok n (n + 1) else .form n
def pathL (ks : List Int) : Nat → List Nat → Nat → Out (List Nat)
  | 0, _, _ => .dry
  | f + 1, acc, n => bif S.kd (n - 1) == 7 && S.is n [46] then (S.take ks (n + 1)).bind fun m n' => pathL ks f (acc ++ [m]) n' else .ok acc n
def path (ks : List Int) (n : Nat) : Out (List Nat) := (S.take ks n).bind fun m n' => S.pathL ks S.ts.length [m] n'
def value (n : Nat) : Out Nat := bif S.is n [111, 112] then S.take [9] (n + 1) else S.take [6] n
def typePath (n : Nat) : Out (List Nat) := (S.path [7, 6] n).bind fun p n' => bif S.kd (n' - 1) == 6 then .ok p n' else .form n'
def beginsK (n : Nat) : Bool := (S.kd n == 4 || S.kd n == 5) || (S.kd n == 6 || S.kd n == 7)
def begins (others : List (List UInt8)) (n : Nat) : Bool := S.beginsK n || (S.is n [111, 112] || S.is n [40]) || others.any fun t => S.is n t
def colon (n : Nat) : Nat × Nat := bif S.is n [58] then (1, n + 1) else bif S.is n [58, 62] then (2, n + 1) else (0, n)
end Src

/-- Parts of one kind, one at least, with a mark between them. -/
def rowL (S : Src) (mark : List UInt8) (read : Nat → Out Pb) : Nat → List Pb → Nat → Out (List Pb)
  | 0, _, _ => .dry
  | f + 1, acc, n => bif S.is n mark then (read (n + 1)).bind fun b n' => rowL S mark read f (acc ++ [b]) n' else .ok acc n
def rowO (S : Src) (F : Nat) (mark : List UInt8) (read : Nat → Out Pb) (n : Nat) : Out (List Pb) := (read n).bind fun b n' => rowL S mark read F [b] n'
def node (k : Int) (f t : Nat) (ns : List Nat) (ks : List Pb) : Pb := .mk k 0 f t (ns.map fun x : Nat => (x : Int)) ks
def marked (m : Int) : Pb → Pb | .mk k _ f t ns ks => .mk k m f t ns ks
/-- One alone is itself. -/
def oneOr (l : List Pb) (k : Int) (f t : Nat) (ns : List Nat) : Pb := match l with | [b] => b | _ => node k f t ns l

/-- One alone, or what else there is. -/
def pick1 (l : List Pb) (f : Pb → Out Pb) (g : Out Pb) : Out Pb := match l with | [b] => f b | _ => g

/-- What counts as a part. -/
inductive Nt where
  | exp | pat | ty | sig | str | dec (at_ : Nat)

section
variable (S : Src) (F : Nat) (rec : Nt → Nat → Nat → Out Pb) (d : Nat)

-- types
def atomicTyO (n : Nat) : Out Pb :=
  bif S.kd n == 8 then .ok (node 41 n (n + 1) [] []) (n + 1)
  else bif S.is n [40] then (rowO S F [44] (rec .ty d) (n + 1)).bind fun l n1 => (S.need [41] n1).bind fun _ n2 => pick1 l (fun b => .ok b n2) ((S.typePath n2).bind fun p n3 => .ok (node 42 n n3 p l) n3)
  else (S.typePath n).bind fun p n1 => .ok (node 42 n n1 p []) n1
def appliedL (n : Nat) : Nat → Pb → Nat → Out Pb
  | 0, _, _ => .dry
  | f + 1, b, m => bif S.kd m == 7 || S.kd m == 6 then (S.typePath m).bind fun p m1 => appliedL n f (node 42 n m1 p [b]) m1 else .ok b m
def appliedO (n : Nat) : Out Pb := (atomicTyO S F rec d n).bind fun b n1 => appliedL S n F b n1
def productO (n : Nat) : Out Pb := (rowO S F [42] (appliedO S F rec d) n).bind fun l n1 => .ok (oneOr l 44 n n1 []) n1
def tyO (n : Nat) : Out Pb := (productO S F rec d n).bind fun b n1 => bif S.is n1 [45, 62] then (rec .ty d (n1 + 1)).bind fun c n2 => .ok (node 43 n n2 [] [b, c]) n2 else .ok b n1

-- patterns and atoms
def tupleO (from_ : Nat) (member : Nat → Out Pb) (n : Nat) : Out Pb :=
  bif S.is n [41] then .ok (node 30 from_ (n + 1) [] []) (n + 1)
  else (rowO S F [44] member n).bind fun l n1 => (S.need [41] n1).bind fun _ n2 => .ok (oneOr l 30 from_ n2 []) n2
def plainO (named : Int) (member : Nat → Out Pb) (n : Nat) : Out Pb :=
  bif S.kd n == 4 then .ok (node 26 n (n + 1) [] []) (n + 1)
  else bif S.kd n == 5 then .ok (node 27 n (n + 1) [] []) (n + 1)
  else bif S.is n [40] then tupleO S F n member (n + 1)
  else (S.value n).bind fun m n1 => .ok (node named n n1 [m] []) n1
def atomicPatO (n : Nat) : Out Pb :=
  bif S.is n [95] then .ok (node 38 n (n + 1) [] []) (n + 1)
  else bif S.kd n == 7 then (S.path [7] n).bind fun p n1 => .ok (node 29 n n1 p []) n1
  else plainO S F 39 (rec .pat d) n
def patO (n : Nat) : Out Pb :=
  bif S.kd n == 6 && S.is (n + 1) [97, 115] then (rec .pat d (n + 2)).bind fun b n1 => .ok (node 40 n n1 [n] [b]) n1
  else bif S.kd n == 7 then (S.path [7] n).bind fun p n1 =>
    bif S.begins [[95]] n1 then (atomicPatO S F rec d n1).bind fun b n2 => .ok (node 29 n n2 p [b]) n2 else .ok (node 29 n n1 p []) n1
  else atomicPatO S F rec d n

-- declarations' loop
def declares (at_ n : Nat) : Bool :=
  bif S.is n [115, 105, 103, 110, 97, 116, 117, 114, 101] || S.is n [102, 117, 110, 99, 116, 111, 114] then decide (2 ≤ at_)
  else bif S.is n [115, 116, 114, 117, 99, 116, 117, 114, 101] then decide (1 ≤ at_)
  else (S.is n [118, 97, 108] || S.is n [102, 117, 110]) || (S.is n [116, 121, 112, 101] || S.is n [100, 97, 116, 97, 116, 121, 112, 101]) || (S.is n [111, 112, 101, 110] || S.is n [108, 111, 99, 97, 108])
def decsL (at_ : Nat) : Nat → List Pb → Nat → Out (List Pb)
  | 0, _, _ => .dry
  | f + 1, acc, n => bif S.is n [59] then decsL at_ f acc (n + 1)
    else bif declares S 2 n then (rec (.dec at_) d n).bind fun b n1 => decsL at_ f (acc ++ [b]) n1
    else .ok acc n
def decsO (at_ n : Nat) : Out (List Pb) := decsL S rec d at_ F [] n
def withinO (at_ n : Nat) : Out Pb := (decsO S F rec d at_ n).bind fun l n1 => .ok (node 2 n n1 [] l) n1

-- expressions
def atomO (n : Nat) : Out Pb :=
  bif S.kd n == 7 then (S.path [7, 6] n).bind fun p n1 => bif S.kd (n1 - 1) == 7 then .ok (node 29 n n1 p []) n1 else .ok (node 28 n n1 p []) n1
  else bif S.is n [108, 101, 116] then (withinO S F rec d 0 (n + 1)).bind fun ds n1 => (S.need [105, 110] n1).bind fun _ n2 => (rec .exp d n2).bind fun e n3 => (S.need [101, 110, 100] n3).bind fun _ n4 => .ok (node 35 n n4 [] [ds, e]) n4
  else plainO S F 28 (rec .exp d) n
def callL : Nat → List Pb → Nat → Out (List Pb)
  | 0, _, _ => .dry
  | f + 1, acc, n => bif S.begins [[108, 101, 116]] n then (atomO S F rec d n).bind fun b n1 => callL f (acc ++ [b]) n1 else .ok acc n
def callO (n : Nat) : Out Pb := (atomO S F rec d n).bind fun b n1 => (callL S F rec d F [b] n1).bind fun l n2 => .ok (oneOr l 36 n n2 []) n2
def infixL : Nat → List Nat → List Pb → Nat → Out (List Nat × List Pb)
  | 0, _, _, _ => .dry
  | f + 1, sg, acc, n => bif S.kd n == 9 then (S.take [9] n).bind fun m n1 => (callO S F rec d n1).bind fun b n2 => infixL f (sg ++ [m]) (acc ++ [b]) n2 else .ok (sg, acc) n
def infixO (n : Nat) : Out Pb := (callO S F rec d n).bind fun b n1 => (infixL S F rec d F [] [b] n1).bind fun l n2 => .ok (oneOr l.2 37 n n2 l.1) n2
def clauseO (k : Int) (from_ n : Nat) : Out Pb := (rec .pat d n).bind fun p n1 => (S.need [61, 62] n1).bind fun _ n2 => (rec .exp d n2).bind fun e n3 => .ok (node k from_ n3 [] [p, e]) n3
def armO (n : Nat) : Out Pb := clauseO S rec d 33 n n
def expO (n : Nat) : Out Pb :=
  bif S.is n [105, 102] then (rec .exp d (n + 1)).bind fun a n1 => (S.need [116, 104, 101, 110] n1).bind fun _ n2 => (rec .exp d n2).bind fun b n3 => (S.need [101, 108, 115, 101] n3).bind fun _ n4 => (rec .exp d n4).bind fun c n5 => .ok (node 31 n n5 [] [a, b, c]) n5
  else bif S.is n [99, 97, 115, 101] then (rec .exp d (n + 1)).bind fun a n1 => (S.need [111, 102] n1).bind fun _ n2 => (rowO S F [124] (armO S rec d) n2).bind fun l n3 => .ok (node 32 n n3 [] ([a] ++ l)) n3
  else bif S.is n [102, 110] then clauseO S rec d 34 n (n + 1)
  else infixO S F rec d n

-- names of types, datatypes
def varsL : Nat → Nat → Out Unit
  | 0, _ => .dry
  | f + 1, n => bif S.is n [44] then (S.take [8] (n + 1)).bind fun _ n1 => varsL f n1 else .ok () n
def typeNameO (n : Nat) : Out Nat :=
  bif S.kd n == 8 then S.take [6] (n + 1)
  else bif S.is n [40] then (S.take [8] (n + 1)).bind fun _ n1 => (varsL S F n1).bind fun _ n2 => (S.need [41] n2).bind fun _ n3 => S.take [6] n3
  else S.take [6] n
def conO (n : Nat) : Out Pb := (S.take [7] n).bind fun m n1 => bif S.is n1 [111, 102] then (rec .ty d (n1 + 1)).bind fun b n2 => .ok (node 9 n n2 [m] [b]) n2 else .ok (node 9 n n1 [m] []) n1
def dbindO (n : Nat) : Out Pb := (typeNameO S F n).bind fun m n1 => (S.need [61] n1).bind fun _ n2 => (rowO S F [124] (conO S rec d) n2).bind fun l n3 => .ok (node 8 n n3 [m] l) n3
def datatypesO (from_ n : Nat) : Out Pb := (rowO S F [97, 110, 100] (dbindO S F rec d) n).bind fun l n1 => .ok (node 7 from_ n1 [] l) n1

-- signatures
def specO (n : Nat) : Out Pb :=
  bif S.is n [118, 97, 108] then (S.value (n + 1)).bind fun m n1 => (S.need [58] n1).bind fun _ n2 => (rec .ty d n2).bind fun b n3 => .ok (node 22 n n3 [m] [b]) n3
  else bif S.is n [116, 121, 112, 101] then (typeNameO S F (n + 1)).bind fun m n1 => bif S.is n1 [61] then (rec .ty d (n1 + 1)).bind fun b n2 => .ok (node 23 n n2 [m] [b]) n2 else .ok (node 23 n n1 [m] []) n1
  else bif S.is n [100, 97, 116, 97, 116, 121, 112, 101] then datatypesO S F rec d n (n + 1)
  else bif S.is n [115, 116, 114, 117, 99, 116, 117, 114, 101] then (S.take [7] (n + 1)).bind fun m n1 => (S.need [58] n1).bind fun _ n2 => (rec .sig d n2).bind fun b n3 => .ok (node 24 n n3 [m] [b]) n3
  else (S.need [105, 110, 99, 108, 117, 100, 101] n).bind fun _ n1 => (rec .sig d n1).bind fun b n2 => .ok (node 25 n n2 [] [b]) n2
def specsL : Nat → List Pb → Nat → Out (List Pb)
  | 0, _, _ => .dry
  | f + 1, acc, n => bif S.is n [101, 110, 100] then .ok acc (n + 1)
    else bif S.is n [59] then specsL f acc (n + 1)
    else (specO S F rec d n).bind fun b n1 => specsL f (acc ++ [b]) n1
def bareSigO (n : Nat) : Out Pb := bif S.is n [115, 105, 103] then (specsL S F rec d F [] (n + 1)).bind fun l n1 => .ok (node 19 n n1 [] l) n1
  else (S.take [7] n).bind fun m n1 => .ok (node 20 n n1 [m] []) n1
def whereL (from_ : Nat) : Nat → Pb → Nat → Out Pb
  | 0, _, _ => .dry
  | f + 1, b, n => bif S.is n [119, 104, 101, 114, 101] then (S.need [116, 121, 112, 101] (n + 1)).bind fun _ n1 => (S.typePath n1).bind fun p n2 => (S.need [61] n2).bind fun _ n3 => (rec .ty d n3).bind fun c n4 => whereL from_ f (node 21 from_ n4 p [b, c]) n4 else .ok b n
def sigO (n : Nat) : Out Pb := (bareSigO S F rec d n).bind fun b n1 => whereL S rec d n F b n1

-- structures
def bareStrO (n : Nat) : Out Pb :=
  bif S.is n [115, 116, 114, 117, 99, 116] then (decsO S F rec d 1 (n + 1)).bind fun l n1 => (S.need [101, 110, 100] n1).bind fun _ n2 => .ok (node 15 n n2 [] l) n2
  else bif S.kd n == 7 && S.is (n + 1) [40] then (rec .str d (n + 2)).bind fun b n1 => (S.need [41] n1).bind fun _ n2 => .ok (node 17 n n2 [n] [b]) n2
  else (S.path [7] n).bind fun p n1 => .ok (node 16 n n1 p []) n1
def sealL (from_ : Nat) : Nat → Pb → Nat → Out Pb
  | 0, _, _ => .dry
  | f + 1, b, n => bif (S.colon n).1 == 0 then .ok b n else (rec .sig d (n + 1)).bind fun s n1 => sealL from_ f (marked ((S.colon n).1 : Int) (node 18 from_ n1 [] [b, s])) n1
def strO (n : Nat) : Out Pb := (bareStrO S F rec d n).bind fun b n1 => sealL S rec d n F b n1
def bodyO (n : Nat) : Out (Nat × List Pb) :=
  (bif (S.colon n).1 == 0 then (.ok [] n : Out (List Pb)) else (rec .sig d (n + 1)).bind fun b n1 => .ok [b] n1).bind fun l n1 => (S.need [61] n1).bind fun _ n2 => (rec .str d n2).bind fun b n3 => .ok ((S.colon n).1, l ++ [b]) n3
def structureO (from_ n : Nat) : Out Pb := (S.take [7] n).bind fun m n1 => (bodyO S rec d n1).bind fun l n2 => .ok (marked (l.1 : Int) (node 10 from_ n2 [m] l.2)) n2
def functorO (from_ n : Nat) : Out Pb := (S.take [7] n).bind fun m n1 => (S.need [40] n1).bind fun _ n2 => (S.take [7] n2).bind fun p n3 => (S.need [58] n3).bind fun _ n4 => (rec .sig d n4).bind fun g n5 => (S.need [41] n5).bind fun _ n6 => (bodyO S rec d n6).bind fun l n7 => .ok (marked (l.1 : Int) (node 12 from_ n7 [m, p] ([g] ++ l.2))) n7

-- declarations
def funL : Nat → List Pb → Nat → Out (List Pb)
  | 0, _, _ => .dry
  | f + 1, acc, n => bif S.begins [[95]] n then (atomicPatO S F rec d n).bind fun b n1 => funL f (acc ++ [b]) n1 else .ok acc n
def functionO (n : Nat) : Out Pb := (S.value n).bind fun m n1 => (atomicPatO S F rec d n1).bind fun b n2 => (funL S F rec d F [b] n2).bind fun l n3 => (S.need [61] n3).bind fun _ n4 => (rec .exp d n4).bind fun e n5 => .ok (node 5 n n5 [m] (l ++ [e])) n5
def localO (from_ at_ n : Nat) : Out Pb := (withinO S F rec d at_ n).bind fun a n1 => (S.need [105, 110] n1).bind fun _ n2 => (withinO S F rec d at_ n2).bind fun b n3 => (S.need [101, 110, 100] n3).bind fun _ n4 => .ok (node 14 from_ n4 [] [a, b]) n4
def decB (at_ n : Nat) : Out Pb :=
  bif S.is n [118, 97, 108] then (rec .pat d (n + 1)).bind fun p n1 => (S.need [61] n1).bind fun _ n2 => (rec .exp d n2).bind fun e n3 => .ok (node 3 n n3 [] [p, e]) n3
  else bif S.is n [102, 117, 110] then (rowO S F [97, 110, 100] (functionO S F rec d) (n + 1)).bind fun l n1 => .ok (node 4 n n1 [] l) n1
  else bif S.is n [116, 121, 112, 101] then (typeNameO S F (n + 1)).bind fun m n1 => (S.need [61] n1).bind fun _ n2 => (rec .ty d n2).bind fun b n3 => .ok (node 6 n n3 [m] [b]) n3
  else bif S.is n [100, 97, 116, 97, 116, 121, 112, 101] then datatypesO S F rec d n (n + 1)
  else bif S.is n [115, 116, 114, 117, 99, 116, 117, 114, 101] then structureO S rec d n (n + 1)
  else bif S.is n [115, 105, 103, 110, 97, 116, 117, 114, 101] then (S.take [7] (n + 1)).bind fun m n1 => (S.need [61] n1).bind fun _ n2 => (rec .sig d n2).bind fun b n3 => .ok (node 11 n n3 [m] [b]) n3
  else bif S.is n [102, 117, 110, 99, 116, 111, 114] then functorO S rec d n (n + 1)
  else bif S.is n [111, 112, 101, 110] then (S.path [7] (n + 1)).bind fun p n1 => .ok (node 13 n n1 p []) n1
  else localO S F rec d n at_ (n + 1)
def decO (at_ n : Nat) : Out Pb := bif declares S at_ n then decB S F rec d at_ n else .form n
def bodyOf : Nt → Nat → Out Pb
  | .exp, n => expO S F rec d n
  | .pat, n => patO S F rec d n
  | .ty, n => tyO S F rec d n
  | .sig, n => sigO S F rec d n
  | .str, n => strO S F rec d n
  | .dec at_, n => decO S F rec d at_ n
end
/-- The parser: a part, with d parts around it, from token n on. -/
def parts (S : Src) : Nat → Nt → Nat → Nat → Out Pb
  | 0, _, _, _ => .dry
  | f + 1, nt, d, n => bif d == 256 then .deep n else bodyOf S f (parts S f) (d + 1) nt n
def fileO (S : Src) (F : Nat) (n : Nat) : Out Pb := (decsO S F (parts S F) 0 2 n).bind fun l n1 => .ok (node 1 0 n1 [] l) n1
/-- All of a text as one part. -/
def wholeO (S : Src) (o : Out Pb) : Out Pb := o.bind fun b n => bif S.kd n == 0 then .ok b n else .form n
end Go.Proofs.YtkjgkchdkeggoaaGreatDoor
