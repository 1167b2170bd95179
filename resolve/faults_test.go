package resolve_test

import (
	"testing"

	"oriel/api"
)

// P13.1: a use that nothing is found for.
func TestUnbound(t *testing.T) {
	for _, c := range []string{
		"val x = !y",
		"val x = !x",
		"val x = ( 1 , !x )",
		"val x = 1 val y = ( x , !z )",
		"val x = 1 !+ 2",
		"val x = op !+",
		"val x = op !* val y = 1",
		"val !A = 1",
		"val x as ( !A , y ) = 1",
		"val ( _ , !A x ) = 1",
		"fun f !A = 1",
		"fun f x ( y , !A ) = x",
		"fun f x = !y",
		"fun f x = x and g y = !x",
		"fun f x = x val y = !x",
		"type t = !t",
		"type t = 'a !int",
		"type t = 'a * ( 'b -> 'c !u )",
		"type t = ( 'a , !u ) t",
		"type t = ( 'a , 'b ) !t",
		"datatype t = A of !u",
		"datatype t = A of t | B of t -> !u and v = C",
		"datatype t = A of !v type v = 'a",
		"datatype t = A val x = !B",
		"val x = if !a then b else c",
		"val a = 1 val x = if a then !b else c",
		"val a = 1 val x = if a then a else !c",
		"val x = case !a of A => b",
		"val x = case 1 of !A => b",
		"val x = case 1 of y => 1 | !A => 1",
		"val x = case 1 of y => !z | z => z",
		"val x = case 1 of y => y | z => !y",
		"val x = ( case 1 of y => y , !y )",
		"val x = ( fn y => y ) !y",
		"val x = fn y => !z",
		"val x = fn !A => 1",
		"val x = let val y = 1 in !z end",
		"val x = let val y = 1 in y end !y",
		"val x = let val y = 1 in y end val z = !y",
		"val x = ( let open !M in 1 end , 2 )",
		"val x = 1 !A",
		"val x = ( 1 , \"\" , !A )",
		"open !M",
		"structure M = struct end open M . !N",
		"structure M = struct structure N = struct end end open M . N . !M",
		"structure M = struct end structure N = struct end open M . !N",
		"structure M = struct val x = 1 end val y = M . !y",
		"structure M = struct val x = 1 end val y = !x",
		"structure M = struct val x = 1 end val x = !N . x",
		"structure M = struct val x = 1 end val x = M . !N . x",
		"structure M = struct type x = 'a end val x = M . !x",
		"structure M = struct datatype t = A end val x = M . A val y = M . !B",
		"val x = 1 structure M = struct val y = x end val z = M . !x",
		"structure N = struct val x = 1 end structure M = struct open N end val y = !x",
		"structure M = !M",
		"structure M = struct structure N = !M end",
		"structure M = struct val x = !M . x end",
		"structure M : !S = struct end",
		"structure M = struct end : !S",
		"signature S = sig end structure M = struct end : S :> !T",
		"structure M = !F ( struct end )",
		"signature S = !S",
		"signature S = sig val x : !t end",
		"signature S = sig type t = !t end",
		"signature S = sig val x : !t type t end",
		"signature S = sig datatype t = A of !u end",
		"signature S = sig structure M : !S end",
		"signature S = sig structure M : sig type t end val x : !t end",
		"signature S = sig structure M : sig type t end val x : M . !u end",
		"signature S = sig include !T end",
		"signature S = sig type t end type u = !t",
		"signature S = sig end where type !t = 'a",
		"type t = 'a signature S = sig end where type !t = 'a",
		"type t = 'a signature S = sig val t : 'a end where type !t = 'a",
		"signature S = sig type t end where type t = !t",
		"signature S = sig type t end where type t = 'a where type !u = 'a",
		"structure M = struct type t = 'a end signature S = sig structure N : sig end end where type !M . t = 'a",
		"signature S = sig structure N : sig end type t end where type N . !t = 'a",
		"functor F ( X : !S ) = struct end",
		"functor F ( X : sig type t = !X . t end ) = struct end",
		"functor F ( X : sig end ) : !S = struct end",
		"functor F ( X : sig end ) = !F ( X )",
		"functor F ( X : sig end ) = X structure M = !X",
		"functor F ( X : sig val x : 'a end ) = struct val y = X . !y end",
		"functor F ( X : sig end ) = struct val x = 1 end structure M = F ( !X )",
		"functor F ( X : sig val x : 'a end ) = struct end structure M = F ( struct val x = 1 end ) val y = M . !x",
		"signature S = sig end structure M : S = struct val x = 1 end val y = M . !x",
		"structure M = struct val x = 1 end : sig end open M val y = !x",
		"structure M = struct val x = 1 end : sig val x : 'a end : sig end val y = M . !x",
		"functor F ( X : sig end ) : sig end = struct val x = 1 end structure M = F ( struct end ) val y = M . !x",
		"local val x = 1 in val y = x end val z = !x",
		"local val x = 1 in end val z = !x",
		"local structure M = struct val x = 1 end in open M end val z = x val y = !M . x",
		"local val y = !x in val x = 1 end",
		"local local val x = 1 in val y = x end in val z = !x end",
	} {
		fails(t, api.ErrUnbound, c)
	}
	fails(t, api.ErrUnbound, "val y = !x", "val x = 1")
	fails(t, api.ErrUnbound, "val x = 1", "val y = ( x , !z )", "val z = x")
	fails(t, api.ErrUnbound, "structure M = struct val x = 1 end", "val z = let open M in x end", "val y = !x")
	fails(t, api.ErrUnbound, "", "", " ; ", "open !M", "structure M = struct end")
}

// P13.1: a name that stands twice where it may stand once.
func TestTwice(t *testing.T) {
	for _, c := range []string{
		"val ( x , !x ) = 1",
		"val ( x , ( y , z ) , ( !y , z ) ) = 1",
		"val x as !x = 1",
		"val x as ( y , !x ) = 1",
		"val ( x , !x as y ) = 1",
		"val ( op + , op !+ ) = 1",
		"datatype t = A val ( A x , A !x ) = 1",
		"fun f x !x = x",
		"fun f x y ( z , !x ) = x",
		"fun f x = x and g y !y = y",
		"fun f x = x and !f y = y",
		"fun f x = x and g x = x and !f x = x and g x = x",
		"fun f x = x and g x = x and !g x = x and f x = x",
		"fun op + x = x and op !+ x = x",
		"val f = fn ( x , !x ) => x",
		"val f = case 1 of ( x , y ) => x | ( x , !x ) => x",
		"val f = let val ( x , !x ) = 1 in x end",
		"datatype t = A and !t = B",
		"datatype t = A and u = B and !u = C and t = D",
		"datatype t = A | !A",
		"datatype t = A | B | C | !B | A",
		"datatype t = A and u = B | !A",
		"datatype t = A of t and u = B | !A of u",
		"signature S = sig val x : 'a val !x : 'a end",
		"signature S = sig val op + : 'a val op !+ : 'a end",
		"signature S = sig type t type !t end",
		"signature S = sig type t type !t = 'a end",
		"signature S = sig type t datatype !t = A end",
		"signature S = sig datatype t = A type !t end",
		"signature S = sig datatype t = A datatype u = !A end",
		"signature S = sig datatype t = A datatype u = B and v = C | !A end",
		"signature S = sig datatype t = A | !A end",
		"signature S = sig datatype t = A and !t = B end",
		"signature S = sig structure M : sig end structure !M : sig end end",
		"signature S = sig include sig type t end type !t end",
		"signature S = sig include sig val x : 'a end val y : 'a val !x : 'a end",
		"signature S = sig include sig datatype t = A end datatype !t = B end",
		"signature S = sig include sig datatype t = A end datatype u = !A end",
		"signature S = sig include sig structure M : sig end end structure !M : sig end end",
		"signature S = sig val x : 'a !include sig val x : 'a end end",
		"signature S = sig val x : 'a !include sig val y : 'a val x : 'a end end",
		"signature S = sig datatype t = A !include sig datatype u = A end end",
		"signature S = sig datatype t = A !include sig type t end end",
		"signature S = sig structure M : sig end !include sig structure M : sig val x : 'a end end end",
		"signature T = sig type t end signature S = sig include T !include T end",
		"signature T = sig type t end signature S = sig include T !include T where type t = 'a end",
		"signature S = sig structure M : sig val x : 'a val !x : 'a end end",
		"structure M : sig type t type !t end = struct type t = 'a end",
		"functor F ( X : sig type t type !t end ) = struct end",
		"functor F ( X : sig type t end ) : sig type t type !t end = X",
		"functor F ( X : sig type t end ) = X : sig type t type !t end",
	} {
		fails(t, api.ErrTwice, c)
	}
	fails(t, api.ErrTwice, "val x = 1", "val ( y , !y ) = x")
	fails(t, api.ErrTwice, "signature T = sig type t end", "signature S = sig type u include T !include T end")
}

// Names that stand more than once where they may.
func TestNotTwice(t *testing.T) {
	means(t, "", "val x#1 = 1 val x#2 = x@1 fun x#3 y#4 = 1 fun x#5 y#6 = x@5")
	means(t, "", "type t#1 = 'a type t#2 = t@1 datatype t#3 = A#4 datatype t#5 = A#6")
	means(t, "", "structure M#1 = struct val x#2 = 1 val x#3 = x@2 type x#4 = 'a type x#5 = x@4 structure M#6 = struct end structure M#7 = M@6 end")
	means(t, "", "signature S#1 = sig end signature S#2 = S@1 functor F#3 ( X#4 : S@2 ) = X@4 functor F#5 ( X#6 : S@2 ) = F@3 ( X@6 )")
	means(t, "", "signature S#1 = sig val x#2 : 'a type x#3 structure A#4 : sig val x#5 : x@3 type x#6 datatype y#7 = A#8 end datatype y#9 = A#10 of x@3 end")
	means(t, "", "datatype t#1 = A#2 val ( A@2 , A@2 , x#3 ) = 1 fun x#4 x#5 = x@5 and y#6 x#7 = case x@7 of x#8 => x@8 | x#9 => x@9")
	means(t, "", "val x#1 = fn x#2 => fn x#3 => ( x@3 , let val x#4 = x@3 val x#5 = x@4 in x@5 end )")
	means(t, "", "signature T#1 = sig type t#2 end signature S#3 = sig structure M#4 : T@1 structure N#5 : T@1 include T@1 include sig end include sig val t#6 : t@2 end end")
	means(t, "", "structure M#1 = struct datatype t#2 = A#3 datatype u#4 = A#5 val A@5 = A@5 end val x#6 = M@1 . A@5")
	means(t, "", "val ( _ , _ ) = 1 fun f#1 _ _ = 1 and g#2 ( ) ( ) 1 1 = 1")
}

// P13.1: a structure that has not all that its signature asks for, told where the declaration, the str : sig, or the cap ( str ) begins.
func TestMissed(t *testing.T) {
	for _, c := range []string{
		"!structure M : sig val x : 'a end = struct end",
		"!structure M :> sig val x : 'a end = struct val y = 1 end",
		"!structure M : sig val x : 'a end = struct type x = 'a datatype t = X end",
		"!structure M : sig type x end = struct val x = 1 end",
		"!structure M : sig datatype t = A | B end = struct datatype t = A end",
		"!structure M : sig datatype t = A end = struct type t = 'a end",
		"!structure M : sig structure A : sig end end = struct datatype t = A end",
		"!structure M : sig structure A : sig val x : 'a end end = struct structure A = struct end val x = 1 end",
		"!structure M : sig structure A : sig structure B : sig val x : 'a end end end = struct structure A = struct structure B = struct end val x = 1 end end",
		"val x = 1 ; !structure M : sig val x : 'a end = struct end",
		"structure M = !struct end : sig val x : 'a end",
		"structure M = !struct end : sig end :> sig val x : 'a end",
		"structure M = !struct val x = 1 end : sig end : sig val x : 'a end",
		"!structure M : sig val x : 'a end = struct val x = 1 end : sig end",
		"structure N = struct end structure M = !N : sig val x : 'a end",
		"structure N = struct structure O = struct end end structure M = !N . O : sig val x : 'a end",
		"functor F ( X : sig val x : 'a end ) = struct end structure M = !F ( struct end )",
		"functor F ( X : sig val x : 'a end ) = struct end structure M = F ( !F ( struct val y = 1 end ) )",
		"functor F ( X : sig val x : 'a end ) = struct end structure M = !F ( F ( struct val x = 1 end ) )",
		"functor F ( X : sig end ) = struct end structure M = !F ( struct end ) : sig val x : 'a end",
		"!functor F ( X : sig val x : 'a end ) : sig val y : 'a end = X",
		"!functor F ( X : sig end ) :> sig val x : 'a end = struct end",
		"functor F ( X : sig end ) = !X : sig val x : 'a end",
		"functor F ( X : sig val x : 'a end ) = struct end functor G ( X : sig end ) = !F ( X )",
		"structure M = struct !structure N : sig val x : 'a end = struct end end",
		"structure M = struct structure N = !struct end : sig val x : 'a end end",
		"local structure O = struct val x = 1 end in !structure M : sig val x : 'a end = struct local open O in end end end",
		"!structure M : sig val x : 'a include sig val y : 'a end end = struct val x = 1 end",
		"!structure M : sig type t end where type t = 'a = struct end",
	} {
		fails(t, api.ErrMatch, c)
	}
	fails(t, api.ErrMatch, "signature S = sig val x : 'a end", "structure M : S = struct val x = 1 end !structure M : S = struct end")
	fails(t, api.ErrMatch, "signature S = sig val x : 'a end structure M : S = struct val x = 1 end", "structure N = struct end", "val x = 1 structure O = !N : S")
}

// P13.1: of several faults the first one in the order of the rules is told.
func TestWhichFault(t *testing.T) {
	const u, w, m = api.ErrUnbound, api.ErrTwice, api.ErrMatch
	for _, c := range []struct {
		err  api.Errno
		text string
	}{
		{u, "val x = !a val y = b"},
		{u, "val x = !a 1 b"},
		{u, "val x = !a + b"},
		{u, "val a = 1 val x = a !+ b + a"},
		{u, "val a = 1 val op + = 1 val x = a + !b - a"},
		{u, "val a = 1 val op + = 1 val x = a + a !- b"},
		{u, "val !A = b"},
		{w, "val ( x , !x ) = b"},
		{u, "val ( x , !A , x ) = b"},
		{w, "val ( x , !x , A ) = b"},
		{w, "datatype t = A val ( x , A !x , B ) = b"},
		{u, "val ( x , !A x ) = b"},
		{w, "val x as !x = b"},
		{u, "val x as ( !A , x ) = b"},
		{w, "fun f ( A , x , x ) = b and !f y = c"},
		{w, "fun f x = a and !f x = b and g y y = c and f z = 1"},
		{u, "fun f x = !a and g y y = 1"},
		{w, "fun f x !x = a and g A = b"},
		{u, "fun f x !A x = 1"},
		{u, "fun f !A = b"},
		{u, "fun f x = f and g !A = b"},
		{u, "type t = ( !u , v ) w"},
		{u, "type t = 'a !u v"},
		{u, "type t = 'a -> !u -> v"},
		{u, "type t = !M . t -> u"},
		{u, "structure M = struct end type t = M . !N . t -> u"},
		{w, "datatype t = A of u | A and !t = B"},
		{w, "datatype t = A | !A of u and v = B of w"},
		{u, "datatype t = A of !u | A"},
		{u, "datatype t = A of !u and v = A"},
		{w, "datatype t = A and v = !A of u | B of w"},
		{u, "structure M : !S = T"},
		{u, "structure M : sig val x : !t end = N"},
		{u, "structure M : sig val x : 'a end = struct val y = !z end"},
		{m, "!structure M : sig val x : 'a end = struct end val y = z"},
		{u, "structure M = !N : S"},
		{u, "structure M = struct end : !S : T"},
		{m, "structure M = !struct end : sig val x : 'a end : T"},
		{u, "structure M = struct val x = !y end : S"},
		{u, "structure M : sig val x : 'a end = !N : sig end"},
		{m, "structure M : sig val x : 'a end = !struct end : sig val y : 'a end"},
		{u, "structure M = !F ( N )"},
		{u, "functor F ( X : sig val x : 'a end ) = X structure M = F ( !N )"},
		{m, "functor F ( X : sig val x : 'a end ) = X structure M = !F ( struct end ) : S"},
		{u, "functor F ( X : !S ) : T = M"},
		{u, "functor F ( X : sig end ) : !T = M"},
		{u, "functor F ( X : sig end ) : sig val x : 'a end = !M"},
		{m, "!functor F ( X : sig end ) : sig val x : 'a end = X structure M = N"},
		{w, "signature S = sig val x : 'a val !x : t end"},
		{w, "signature S = sig type t type !t = u end"},
		{w, "signature S = sig structure M : sig end structure !M : T end"},
		{u, "signature S = sig val x : !t val x : 'a end"},
		{w, "signature S = sig type t datatype u = A of v and !t = B end"},
		{u, "signature S = sig type t datatype u = A of !v | A end"},
		{w, "signature S = sig datatype t = A datatype u = !A of v end"},
		{u, "signature S = sig val x : 'a include !T end"},
		{u, "signature S = sig val x : 'a include sig val x : !t end end"},
		{w, "signature S = sig val x : 'a include sig val x : 'a val !x : 'a end end"},
		{w, "signature S = sig val x : 'a !include sig val x : 'a end val x : t end"},
		{u, "signature S = !T where type t = u"},
		{u, "signature S = sig end where type !t = u"},
		{u, "signature S = sig type t end where type t = !u where type v = 'a"},
		{w, "signature S = sig type t type !t end where type u = v"},
		{u, "open !M . N"},
		{u, "local val x = !a in val y = b end val z = c"},
		{u, "local val x = 1 in val y = !b end val z = c"},
		{u, "val x = let val y = !a in b end c"},
		{u, "val x = let val y = 1 in !b end c"},
		{u, "val x = case !a of B => c"},
		{u, "val x = case 1 of !B => c | D => e"},
		{u, "val x = case 1 of b => !c | D => e"},
		{u, "val x = fn !A => b"},
		{w, "val x = fn ( a , !a ) => b"},
		{u, "val x = if !a then b else c"},
		{u, "val x = ( !a , b )"},
	} {
		fails(t, c.err, c.text)
		fails(t, c.err, "val q = 1", c.text, "val r = s")
		fails(t, c.err, "structure Q = struct val q = 1 end", "open Q val v' = q ; "+c.text+" ; val ( r , r ) = s", "open M")
	}
}
