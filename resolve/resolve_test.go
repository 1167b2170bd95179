package resolve_test

import (
	"testing"

	"oriel/api"
	"oriel/resolve"
	"oriel/unit"
)

// P13.1: no unit, and units without names.
func TestNothing(t *testing.T) {
	if g, fault := resolve.Resolve(nil); !same(g, api.Graph{}) || fault != (api.Fault{Err: api.ErrNil}) {
		t.Error(g, fault)
	}
	for _, u := range []*unit.Unit{{}, load(t), load(t, texts("")...), load(t, texts("", " ; (* val x = y *)", "local in end")...)} {
		if g, fault := resolve.Resolve(u); !same(g, api.Graph{}) || fault != (api.Fault{}) {
			t.Error(g, fault)
		}
	}
}

// The examples of the document that Resolve can tell.
func TestExamples(t *testing.T) {
	means(t, "", "structure M#1 = struct val x#2 = 1 end open M@1 val y#3 = x@2/0")
	means(t, "2-4", "signature S#1 = sig val x#2 : 'a end structure M#3 : S@1 = struct val x#4 = 1 end val y#5 = M@3 . x@2")
	means(t, "", "structure M#1 = struct val x#2 = 1 end open M@1 val y#3 = 2 val z#4 = x@2/0")
	means(t, "", "val x#1 = 1 fun f#2 y#3 = x@1")
}

// val: the pattern, the expression, then the names.
func TestVal(t *testing.T) {
	means(t, "", "val x#1 = 1 val y#2 = x@1 val x#3 = x@1 val x#4 = x@3")
	means(t, "", "val x#1 = 1 val ( y#2 , x#3 ) = ( x@1 , x@1 ) val z#4 = ( x@3 , y@2 )")
	means(t, "", "val op +#1 = 1 val op +#2 = op +@1 val x#3 = 1 +@2 2 +@2 3")
	means(t, "", "val _ = 1 val 1 = \"x\" val () = ()")
	means(t, "", "datatype t#1 = C#2 | D#3 of t@1 val C@2 = C@2 val D@3 x#4 = D@3 C@2 val ( D@3 ( D@3 C@2 ) , x#5 ) = x@4 val z#6 = x@5")
	means(t, "", "val x#1 as ( y#2 as z#3 , _ ) = 1 val w#4 = ( x@1 , y@2 , z@3 )")
	means(t, "", "val x#1 = 1 val x#2 as y#3 = x@1 val y#4 = ( x@2 , y@3 )")
}

// fun: all functions' names are there in all of them; parameters in their own expression alone.
func TestFun(t *testing.T) {
	means(t, "", "fun f#1 x#2 = f@1 x@2 val g#3 = f@1")
	means(t, "", "val x#1 = 1 val g#2 = 1 fun f#3 _ = ( g@4 , x@1 ) and g#4 x#5 = ( f@3 , x@5 ) and h#6 y#7 = ( h@6 , x@1 , y@7 ) val z#8 = ( f@3 , g@4 , h@6 , x@1 )")
	means(t, "", "fun f#1 f#2 = f@2 val x#3 = f@1")
	means(t, "", "fun f#1 g#2 = ( f@1 , g@2 ) and g#3 f#4 = ( f@4 , g@3 )")
	means(t, "", "datatype t#1 = C#2 fun f#3 C@2 ( C@2 , x#4 ) ( y#5 as C@2 ) = ( x@4 , y@5 , C@2 )")
	means(t, "", "fun op +#1 ( x#2 , y#3 ) = x@2 +@1 y@3 and f#4 ( op -#5 ) z#6 = z@6 -@5 z@6 +@1 z@6")
	means(t, "", "fun f#1 x#2 = x@2 fun f#3 x#4 = f@3 x@4")
}

// type: the type, then the name. datatype: all types' names, the types of constructors, then these.
func TestTypes(t *testing.T) {
	means(t, "", "datatype int#1 = I#2 type t#3 = int@1 type t#4 = t@3 type t#5 = t@4 -> t@4 * int@1 t@4")
	means(t, "", "datatype t#1 = A#2 | B#3 of t@1 * u@4 and u#4 = C#5 of t@1 | D#6 type v#7 = ( t@1 , u@4 ) t@1 val x#8 = ( A@2 , B@3 , C@5 , D@6 )")
	means(t, "", "datatype t#1 = A#2 datatype t#3 = A#4 of t@3 | B#5 val x#6 = A@4 val B@5 = A@4")
	means(t, "", "datatype t#1 = A#2 type t#3 = t@1 datatype u#4 = A#5 of t@3 val x#6 = A@5")
	means(t, "", "type 'a t#1 = 'a type ( 'a , 'b ) u#2 = 'a t@1 -> ( 'a , 'b t@1 ) t@1 datatype 'a v#3 = V#4 of 'a v@3")
	means(t, "", "structure M#1 = struct type t#2 = 'a structure N#3 = struct datatype u#4 = U#5 end end type t#6 = M@1 . t@2 * M@1 . N@3 . u@4 val M@1 . N@3 . U@5 = M@1 . N@3 . U@5")
}

// Names of one space are not those of another one.
func TestSpaces(t *testing.T) {
	means(t, "", "val x#1 = 1 type x#2 = 'a val y#3 = x@1 type y#4 = x@2")
	means(t, "", "type x#1 = 'a val x#2 = 1 datatype y#3 = A#4 of x@1 structure A#5 = struct val x#6 = x@2 type x#7 = x@1 end signature A#8 = sig val x#9 : x@1 type x#10 end val z#11 = ( A@4 , A@5 . x@6 )")
	means(t, "1-9", "signature A#0 = sig val x#1 : 'a end functor A#2 ( A#3 : A@0 ) = struct val y#4 = A@3 . x@1 datatype a#5 = A#6 of 'a structure B#7 = A@3 end structure A#8 = struct val x#9 = 1 end structure A#10 = A@2 ( A@8 ) val z#11 = ( A@10 . A@6 , A@10 . y@4 , A@10 . B@7 . x@1 )")
	for _, c := range []string{
		"val x#1 = 1 type t#2 = !x",
		"type x#1 = 'a val y#2 = !x",
		"structure A#1 = struct end val x#2 = !A",
		"datatype t#1 = A#2 open !A",
		"structure A#1 = struct end structure B#2 : !A = A@1",
		"structure A#1 = struct end structure B#2 = !A ( A@1 )",
		"signature A#1 = sig end structure B#2 = !A",
		"signature A#1 = sig end structure B#2 = !A ( struct end )",
		"functor A#1 ( B#2 : sig end ) = struct end structure C#3 = !A",
		"functor A#1 ( B#2 : sig end ) = struct end signature C#3 = !A",
	} {
		fails(t, api.ErrUnbound, c)
	}
}

// structure, struct, paths: parts are what was bound.
func TestStructures(t *testing.T) {
	means(t, "", "structure M#1 = struct val x#2 = 1 val y#3 = x@2 val x#4 = y@3 end val z#5 = ( M@1 . x@4 , M@1 . y@3 )")
	means(t, "", "val x#1 = 1 structure M#2 = struct val y#3 = x@1 val x#4 = x@1 end val z#5 = ( x@1 , M@2 . x@4 )")
	means(t, "", "structure M#1 = struct structure M#2 = struct val x#3 = 1 end val y#4 = M@2 . x@3 end val z#5 = M@1 . M@2 . x@3")
	means(t, "", "structure M#1 = struct val x#2 = 1 end structure N#3 = M@1 structure M#4 = struct val x#5 = N@3 . x@2 structure O#6 = M@1 end val z#7 = ( N@3 . x@2 , M@4 . x@5 , M@4 . O@6 . x@2 )")
	means(t, "", "structure M#1 = struct structure N#2 = struct structure O#3 = struct val x#4 = 1 end end end structure P#5 = M@1 . N@2 . O@3 structure Q#6 = M@1 . N@2 val z#7 = ( P@5 . x@4 , Q@6 . O@3 . x@4 )")
	means(t, "", "structure M#1 = struct end structure M#2 = M@1 structure M#3 = struct structure M#4 = M@2 end")
	means(t, "", "structure M#1 = struct structure M#2 = struct end structure N#3 = M@2 end structure O#4 = struct structure P#5 = M@1 . N@3 end")
}

// Sealed structures have what the signature has; what both have is linked.
func TestSeals(t *testing.T) {
	const s = "signature S#1 = sig val x#2 : 'a end "
	means(t, "2-4", s+"structure M#3 :> S@1 = struct val x#4 = 1 val y#5 = 2 end val z#6 = M@3 . x@2")
	means(t, "2-4", s+"structure M#3 = struct val x#4 = 1 val y#5 = x@4 end : S@1 val z#6 = M@3 . x@2")
	means(t, "2-5 2-3", s+"structure M#4 : sig val x#3 : 'a end = struct val x#5 = 1 end :> S@1 val z#6 = M@4 . x@3")
	means(t, "3-5 2-3", s+"structure M#4 = struct val x#5 = 1 end : sig val x#3 : 'a end : S@1 val y#8 = M@4 . x@2")
	means(t, "2-5 3-2", s+"structure M#4 = struct val x#5 = 1 end : S@1 :> sig val x#3 : 'a end val y#8 = M@4 . x@3")
	means(t, "2-4 2-6", s+"structure M#3 : S@1 = struct val x#4 = 1 end structure N#5 : S@1 = struct val x#6 = 1 end")
	means(t, "2-4", s+"structure M#3 : S@1 = struct val x#4 = 1 end structure N#5 : S@1 = M@3 structure O#6 = N@5 : S@1 val y#7 = O@6 . x@2")
	means(t, "2-6", s+"structure M#3 : S@1 = struct val x#4 = 1 val x#5 = x@4 val x#6 = x@5 end")
	means(t, "2-5", s+"structure M#3 : S@1 = struct structure N#4 = struct val x#5 = 1 end open N@4 end val y#6 = M@3 . x@2")
	means(t, "2-5", s+"structure M#3 : S@1 = struct local val x#4 = 1 in val x#5 = x@4 end end")
	means(t, "", s+"structure M#3 : sig end = struct val x#4 = 1 end")
}

// Matched are values, constructors, types and structures, and the parts of these.
func TestMatchParts(t *testing.T) {
	means(t, "1-11 2-10 3-12 4-13 5-14 6-9 7-15",
		"signature S#0 = sig val x#1 : 'a type t#2 datatype u#3 = A#4 | B#5 of t@2 structure N#6 : sig val y#7 : 'a end end "+
			"structure M#8 : S@0 = struct structure N#9 = struct val y#15 = 1 end type t#10 = 'a val x#11 = 1 datatype u#12 = A#13 | B#14 end "+
			"val z#16 = ( M@8 . x@1 , M@8 . A@4 , M@8 . B@5 , M@8 . N@6 . y@7 ) type v#17 = M@8 . t@2 * M@8 . u@3")
	means(t, "2-12 3-13 4-14 5-15 6-16",
		"signature S#1 = sig structure A#2 : sig structure B#3 : sig val x#4 : 'a end val x#5 : 'a end val x#6 : 'a end "+
			"structure M#11 : S@1 = struct structure A#12 = struct structure B#13 = struct val x#14 = 1 end val x#15 = 1 end val x#16 = 1 end "+
			"val y#17 = ( M@11 . A@2 . B@3 . x@4 , M@11 . A@2 . x@5 , M@11 . x@6 )")
	means(t, "2-5 6-4 2-7",
		"signature S#1 = sig val x#2 : 'a end structure N#3 = struct val x#5 = 1 end structure M#9 : sig structure N#4 : S@1 end = struct structure N#6 = N@3 end structure O#8 : S@1 = struct val x#7 = M@9 . N@4 . x@2 end")
	// The same parts twice have the same links, each once.
	means(t, "2-4 6-9 7-10",
		"signature S#1 = sig val x#2 : 'a end structure N#3 = struct val x#4 = 1 end "+
			"signature T#5 = sig structure A#6 : S@1 structure B#7 : S@1 end structure M#8 : T@5 = struct structure A#9 = N@3 structure B#10 = N@3 end")
}

// signature: specifications with those ahead; include, where, names of signatures.
func TestSignatures(t *testing.T) {
	means(t, "", "type t#1 = 'a signature S#2 = sig val x#3 : t@1 type t#4 val y#5 : t@4 type u#6 = t@4 datatype v#7 = A#8 of v@7 | B#9 of w@10 and w#10 = C#11 of u@6 val z#12 : v@7 * w@10 end type w#13 = t@1")
	means(t, "", "type t#1 = 'a signature S#2 = sig type t#3 = t@1 type u#4 = t@3 end")
	means(t, "", "signature S#1 = sig structure M#2 : sig type t#3 val x#4 : t@3 end val y#5 : M@2 . t@3 end signature T#6 = S@1 structure N#7 = struct structure O#8 = struct end end")
	means(t, "", "signature S#1 = sig type t#2 end signature T#3 = sig structure M#4 : S@1 structure N#5 : sig type t#6 = M@4 . t@2 end type u#7 = N@5 . t@6 end")
	means(t, "", "signature S#1 = sig type t#2 end signature S#3 = sig include S@1 val x#4 : t@2 end signature S#5 = sig include S@3 type u#6 = t@2 end")
	means(t, "2-7 3-8 4-9", "signature S#1 = sig val x#2 : 'a type t#3 end signature T#5 = sig include S@1 val y#4 : t@3 end structure M#6 : T@5 = struct val x#7 = 1 type t#8 = 'a val y#9 = 1 end val z#10 = ( M@6 . x@2 , M@6 . y@4 )")
	means(t, "", "signature S#1 = sig include sig type t#2 end include sig structure M#3 : sig type t#4 end end type u#5 = t@2 * M@3 . t@4 end")
	means(t, "", "signature S#1 = sig type t#2 structure M#3 : sig type u#4 end end type t#5 = 'a signature T#6 = S@1 where type t@2 = t@5 where type M@3 . u@4 = t@5 * t@5 signature U#7 = T@6 where type t@2 = t@5")
	means(t, "", "structure M#1 = struct type t#2 = 'a end signature S#3 = sig structure M#4 : sig type t#5 end end where type M@4 . t@5 = M@1 . t@2")
	means(t, "", "type u#1 = 'a signature S#2 = sig type t#3 include sig type u#4 type v#5 end where type u@4 = t@3 where type v@5 = u@1 type w#6 = u@4 end")
	means(t, "2-6", "signature S#1 = sig type t#2 end structure M#3 : S@1 where type t@2 = 'a = struct type u#4 = 'a type t#6 = u@4 end")
	means(t, "", "signature S#1 = sig val op +#2 : 'a val x#3 : 'a end")
}

// functor: the parameter's signature, the parameter, its body; what it has, and what its parameter has.
func TestFunctors(t *testing.T) {
	const s = "signature S#1 = sig val x#2 : 'a end "
	means(t, "2-8", s+"functor F#3 ( X#4 : S@1 ) = struct val y#5 = X@4 . x@2 end structure A#7 = struct val x#8 = 1 end structure M#9 = F@3 ( A@7 ) val z#10 = M@9 . y@5")
	means(t, "2-8 2-6", s+"functor F#3 ( X#4 : S@1 ) : S@1 = struct val y#5 = X@4 . x@2 val x#6 = y@5 end structure M#9 = F@3 ( struct val x#8 = 1 end ) val z#10 = M@9 . x@2")
	means(t, "2-8 2-6", s+"functor F#3 ( X#4 : S@1 ) :> S@1 = struct val x#6 = 1 end structure M#9 = F@3 ( F@3 ( struct val x#8 = 1 end ) ) val z#10 = M@9 . x@2")
	means(t, "2-8 6-2", s+"functor F#3 ( X#4 : S@1 ) : sig val x#6 : 'a end = X@4 structure M#9 = F@3 ( struct val x#8 = 1 end ) val z#10 = M@9 . x@6")
	means(t, "", "structure X#1 = struct type t#2 = 'a end functor F#3 ( X#4 : sig type t#5 type u#6 = X@1 . t@2 end ) = struct type v#8 = X@4 . t@5 end type w#9 = X@1 . t@2")
	means(t, "7-8", "structure X#1 = struct type t#2 = 'a end functor F#3 ( X#4 : sig type t#5 type u#6 = X@1 . t@2 end ) : sig type v#7 = X@4 . t@5 end where type v@7 = X@4 . u@6 = struct type v#8 = X@4 . t@5 end type w#9 = X@1 . t@2")
	means(t, "", "functor F#1 ( F#2 : sig end ) = F@2 functor G#3 ( X#4 : sig end ) = F@1 ( X@4 ) functor F#5 ( X#6 : sig end ) = F@1 ( G@3 ( X@6 ) )")
	means(t, "2-8 2-11", s+"functor F#3 ( X#4 : S@1 ) = struct structure Y#5 = X@4 end structure M#6 = F@3 ( struct val x#8 = 1 end ) structure N#7 = F@3 ( struct val x#11 = M@6 . Y@5 . x@2 end ) val z#10 = N@7 . Y@5 . x@2")
	means(t, "2-8 2-5", s+"functor F#3 ( X#4 : S@1 ) = struct end structure M#6 : S@1 = struct val x#5 = 1 end structure N#7 = F@3 ( M@6 ) structure O#9 = F@3 ( struct val x#8 = 1 end : S@1 )")
	means(t, "2-4 3-6 5-7", "functor F#1 ( X#0 : sig val x#2 : 'a structure N#3 : sig val y#5 : 'a end end ) = struct end structure M#10 = F@1 ( struct val x#4 = 1 structure N#6 = struct val y#7 = 1 val x#8 = 1 end end )")
}

// open: its parts' names are bound through it, by its number among all opens.
func TestOpens(t *testing.T) {
	const m = "structure M#1 = struct val x#2 = 1 type t#3 = 'a datatype d#4 = A#5 structure N#6 = struct val y#7 = 1 end end "
	means(t, "", m+"open M@1 val z#8 = x@2/0 type u#9 = t@3/0 * d@4/0 val A@5/0 = A@5/0 val w#10 = N@6/0 . y@7 open N@6/0 val v#11 = ( y@7/1 , x@2/0 )")
	means(t, "", m+"open M@1 . N@6 val z#8 = y@7/0 open M@1 val z#9 = ( y@7/0 , x@2/1 ) open M@1 val z#10 = ( y@7/0 , x@2/2 )")
	means(t, "", m+"val x#8 = 1 open M@1 val z#9 = x@2/0 val x#10 = x@2/0 val z#11 = x@10 open M@1 val z#12 = x@2/1")
	means(t, "", m+"val z#8 = let open M@1 in x@2/0 end structure O#9 = struct open M@1 val z#10 = x@2/1 end val z#11 = ( O@9 . x@2 , O@9 . N@6 . y@7 ) open O@9 val z#12 = ( x@2/2 , N@6/2 . y@7 )")
	means(t, "", m+"structure O#8 = struct open M@1 end open O@8 structure P#9 = struct open O@8 val a#10 = x@2/2 end", "val a#11 = x@2/1 open P@9 val b#12 = ( x@2/3 , a@10/3 ) open M@1 val b#13 = ( x@2/4 , a@10/3 )")
	means(t, "", "structure M#1 = struct val x#2 = 1 val x#3 = 2 end open M@1 val y#4 = x@3/0")
	means(t, "", "structure M#1 = struct end open M@1 open M@1 val x#2 = 1 open M@1 val y#3 = x@2")
	means(t, "2-5", "signature S#1 = sig val x#2 : 'a end functor F#3 ( X#4 : S@1 ) = struct open X@4 val y#6 = x@2/0 end structure M#7 : S@1 = struct val x#5 = 1 end structure N#8 = F@3 ( M@7 ) open M@7 open N@8 val z#9 = ( x@2/2 , y@6/2 )")
	means(t, "", "structure M#1 = struct val x#2 = 1 end fun f#3 x#4 = let open M@1 val y#5 = x@2/0 in ( x@2/0 , y@5 ) end and g#6 x#7 = let val y#8 = let open M@1 in x@2/1 end in x@7 end open M@1 val z#9 = x@2/2")
	means(t, "", m+"open M@1 datatype b#8 = B#9 of d@4/0 val z#10 = 1 val x#11 = fn x#12 => ( x@12 , A@5/0 ) signature S#13 = sig val y#14 : t@3/0 end")
}

// local: behind it what the second declarations have bound, alone.
func TestLocals(t *testing.T) {
	means(t, "", "val x#1 = 1 local val x#2 = x@1 val y#3 = x@2 in val z#4 = ( x@2 , y@3 ) val x#5 = x@2 val w#6 = x@5 end val v#7 = ( x@5 , z@4 , w@6 )")
	means(t, "", "val x#1 = 1 local val x#2 = 2 in end val y#3 = x@1 local in val x#4 = 1 end val z#5 = x@4")
	means(t, "", "structure M#1 = struct val x#2 = 1 val y#9 = 1 end local open M@1 in val z#3 = x@2/0 open M@1 val y#4 = x@2/1 end val w#5 = ( x@2/1 , y@4 , z@3 )")
	means(t, "", "structure M#1 = struct val x#2 = 1 end structure N#3 = struct local local open M@1 in open M@1 val y#4 = x@2/1 end in val x#5 = x@2/1 val z#6 = y@4 end end open N@3 val w#7 = ( x@5/2 , z@6/2 )")
	means(t, "", "local signature S#1 = sig end functor F#2 ( X#3 : S@1 ) = X@3 in signature T#4 = S@1 functor G#5 ( X#6 : T@4 ) = F@2 ( X@6 ) structure M#7 = struct end end signature S#8 = T@4 structure N#9 = G@5 ( M@7 )")
	means(t, "", "val x#1 = let local val y#2 = 1 in val z#3 = y@2 end in z@3 end")
	means(t, "", "val a#0 = 1 local local val a#1 = 1 in val b#2 = a@1 end val a#3 = b@2 in local val b#4 = ( a@3 , b@2 ) in val c#5 = b@4 end val d#6 = ( b@2 , c@5 ) end val e#7 = ( a@0 , c@5 , d@6 )")
	means(t, "", "local datatype t#1 = A#2 | B#3 of t@1 in datatype u#4 = C#5 of t@1 val x#6 = ( A@2 , B@3 ) end val C@5 = x@6 type v#7 = u@4")
}

// Expressions: names as they come; let, fn and arms have their own.
func TestExpressions(t *testing.T) {
	const d = "datatype t#1 = A#2 | B#3 of t@1 val a#4 = 1 val b#5 = 2 val op +#6 = 3 val op *#7 = 4 "
	means(t, "", d+"val c#8 = if a@4 then b@5 else ( a@4 , ( ) , 1 , \"a\" , A@2 ) +@6 b@5 *@7 op +@6 a@4")
	means(t, "", d+"val c#8 = case a@4 of A@2 => b@5 | B@3 a#9 => a@9 | a#10 as B@3 b#11 => ( a@10 , b@11 ) | _ => a@4 val e#12 = ( a@4 , b@5 )")
	means(t, "", d+"val c#8 = fn a#9 => fn b#10 => ( a@9 , b@10 , fn a#11 => a@11 , a@9 ) val e#12 = ( a@4 , b@5 )")
	means(t, "", d+"val c#8 = let val a#9 = b@5 fun b#10 a#11 = ( a@11 , b@10 ) in ( a@9 , b@10 ) end a@4 b@5")
	means(t, "", d+"val c#8 = let val a#9 = let val a#10 = a@4 in a@10 end in a@9 end +@6 a@4")
	means(t, "", d+"val c#8 = let type t#9 = t@1 datatype u#10 = A#11 of t@9 in A@11 end val e#12 = A@2")
	means(t, "", d+"val c#8 = let in a@4 end val e#9 = let val op +#10 = op +@6 in 1 +@10 2 end +@6 3")
	means(t, "", d+"val c#8 = case case a@4 of a#9 => a@9 of a#10 => case a@10 of a#11 => a@11 | b#12 => ( a@10 , b@12 )")
	means(t, "", d+"fun f#8 a#9 = case a@9 of B@3 ( B@3 c#10 ) => f@8 c@10 +@6 a@9 | c#11 => ( fn ( a#12 , A@2 ) => a@12 ) c@11")
	means(t, "", "structure M#1 = struct structure N#2 = struct val x#3 = 1 datatype d#5 = D#6 end end val y#4 = M@1 . N@2 . x@3 ( M@1 . N@2 . D@6 , M@1 . N@2 . x@3 )")
}

// Files stand one behind the other in one environment.
func TestFiles(t *testing.T) {
	means(t, "", "val x#1 = 1", "val y#2 = x@1 val x#3 = y@2", "", "val z#4 = ( x@3 , y@2 )")
	means(t, "2-5", "signature S#1 = sig val x#2 : 'a end", "functor F#3 ( X#4 : S@1 ) = X@4", "structure M#6 = struct val x#5 = 1 end", "structure N#7 = F@3 ( M@6 )", "open N@7", "val y#8 = x@2/0")
	means(t, "", "structure M#1 = struct val x#2 = 1 end open M@1", "open M@1 open M@1", "val y#3 = x@2/2 val x#4 = x@2/2", "val z#5 = x@4 open M@1 val z#6 = x@2/3")
}
