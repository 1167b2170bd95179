package find_test

import (
	"slices"
	"strconv"
	"strings"
	"testing"

	"oriel/api"
	"oriel/env"
	"oriel/find"
	"oriel/match"
	"oriel/resolve"
	"oriel/unit"
)

// drawing is files told token by token, and what they mean: x#3 is a name that declares, known as 3; x@3 one that uses what is known as 3; a ! ahead of a name marks it.
type drawing struct {
	files []api.File
	unit  *unit.Unit
	known map[string]api.Place
	means map[api.Place]string // as what that is known which a name means
	mark  api.Place
}

// draw reads a drawing of these files.
func draw(t *testing.T, files ...string) *drawing {
	t.Helper()
	d := &drawing{known: map[string]api.Place{}, means: map[api.Place]string{}, mark: api.Place{File: -1}}
	for i, s := range files {
		var text strings.Builder
		for _, token := range strings.Fields(s) {
			text.WriteString(d.token(token, api.Place{File: i, At: text.Len()}) + " ")
		}
		d.files = append(d.files, api.File{Name: strconv.Itoa(i), Text: text.String()})
	}
	d.unit = load(t, d.files...)
	return d
}

// token is the bytes of the token that stands there; what is told of a name is noted.
func (d *drawing) token(token string, at api.Place) string {
	token, marked := strings.CutPrefix(token, "!")
	if marked {
		d.mark = at
	}
	if text, label, ok := strings.Cut(token, "@"); ok && text != "" {
		d.means[at] = label
		return text
	}
	text, label, ok := strings.Cut(token, "#")
	if ok {
		d.known[label], d.means[at] = at, label
	}
	return text
}

// at is the occurrence that stands there; there has to be one.
func (d *drawing) at(t *testing.T, p api.Place) int {
	t.Helper()
	occ, ok := d.unit.At(p.File, p.At)
	if !ok {
		t.Fatalf("%q: no name stands at %v", d.files, p)
	}
	return occ
}

// number is which occurrence is known as this; there has to be one.
func (d *drawing) number(t *testing.T, label string) int {
	t.Helper()
	p, met := d.known[label]
	if !met {
		t.Fatalf("%q: nothing is known as %s", d.files, label)
	}
	return d.at(t, p)
}

// means holds what is found in files, and what is linked (told as 1-2 3-4), against what is drawn.
func means(t *testing.T, linked string, files ...string) {
	t.Helper()
	d := draw(t, files...)
	edges := slices.Repeat([]int{-1}, len(d.unit.Occs()))
	for p, label := range d.means {
		edges[d.at(t, p)] = d.number(t, label)
	}
	var links []api.Pair
	for _, told := range strings.Fields(linked) {
		a, b, _ := strings.Cut(told, "-")
		links = append(links, api.Pair{A: d.number(t, a), B: d.number(t, b)})
	}
	f := find.New(d.unit)
	if got := f.Edges(); !slices.Equal(got, edges) {
		t.Errorf("%q: %d, not %d", files, got, edges)
	}
	if got, ok := f.Links(); !slices.Equal(got, match.Links(links...)) || !ok {
		t.Errorf("%q: %v %v, not %v", files, got, ok, links)
	}
	if _, fault := hold(t, d.unit); fault != (api.Fault{}) {
		t.Errorf("%q: %v", files, fault)
	}
}

// lost holds that nothing is found for the use that is marked, and that Resolve stops there.
func lost(t *testing.T, files ...string) {
	t.Helper()
	d := draw(t, files...)
	if _, fault := resolve.Resolve(d.unit); fault != (api.Fault{Err: api.ErrUnbound, File: d.mark.File, At: d.mark.At}) {
		t.Errorf("%q: %v", files, fault)
	}
	f, occ := find.New(d.unit), d.at(t, d.mark)
	if decl, ok := f.Binds(occ); decl != 0 || ok || f.Edges()[occ] != -1 {
		t.Errorf("%q: %d %v", files, decl, ok)
	}
}

// finds holds what declares names where the marked use stands: vx=1 says that the value x is known as 1, vx= that it is not found.
func finds(t *testing.T, asked string, files ...string) {
	t.Helper()
	d := draw(t, files...)
	f, occ := find.New(d.unit), d.at(t, d.mark)
	for _, told := range strings.Fields(asked) {
		text, label, _ := strings.Cut(told[1:], "=")
		decl, ok := f.Look(occ, env.Key{Space: strings.Index("-vctsgf", told[:1]), Name: text})
		switch {
		case label == "" && (ok || decl != 0):
			t.Errorf("%q: %s is found: %d %v", files, told, decl, ok)
		case label != "" && (!ok || decl != d.number(t, label)):
			t.Errorf("%q: %s is %d %v", files, told, decl, ok)
		}
	}
}

// P14.1: declarations: those ahead, the last one first; a val, a type, a structure is not there in itself.
func TestDeclarations(t *testing.T) {
	means(t, "", "val x#1 = 1 val y#2 = x@1 val x#3 = x@1 val x#4 = x@3 val z#5 = ( x@4 , y@2 )")
	means(t, "", "val x#1 = 1 val ( x#2 , y#3 as z#4 ) = x@1 val w#5 = ( x@2 , y@3 , z@4 )")
	means(t, "", "type t#1 = 'a type t#2 = t@1 type u#3 = t@2 t@2")
	means(t, "", "structure M#1 = struct val x#2 = 1 end structure M#3 = struct structure N#4 = M@1 val y#5 = M@1 . x@2 end val z#6 = M@3 . N@4 . x@2")
	means(t, "", "signature S#1 = sig type t#2 end signature S#3 = sig include S@1 val x#4 : t@2 end signature T#5 = S@3 where type t@2 = 'a")
	means(t, "", "val x#1 = 1", "val y#2 = x@1 val x#3 = y@2", "", "val z#4 = ( x@3 , y@2 )")
	means(t, "", "val x#1 = 1 type x#2 = 'a val y#3 = x@1 type y#4 = x@2 structure M#5 = struct type x#6 = x@2 val x#7 = x@1 end type z#8 = M@5 . x@6")
	for _, s := range []string{"val x = !x", "val x = 1 val y = !z", "type t = !t", "structure M = !M", "signature S = !S", "val x = 1 type t = !x", "structure M = struct end val x = !M", "val !A = 1", "open !M"} {
		lost(t, s)
	}
	lost(t, "val y = !x", "val x = 1")
	lost(t, "val x#1 = 1", "val y#2 = x@1 val z#3 = !w", "val w = 1")
}

// P14.1: fun, fn and arms.
func TestFunctions(t *testing.T) {
	means(t, "", "val x#1 = 1 val g#2 = 1 fun f#3 _ = ( g@4 , x@1 ) and g#4 x#5 = ( f@3 , x@5 ) and h#6 y#7 = ( h@6 , x@1 , y@7 ) val z#8 = ( f@3 , g@4 , h@6 , x@1 )")
	means(t, "", "fun f#1 f#2 = f@2 val x#3 = f@1")
	means(t, "", "fun f#1 g#2 ( f#3 , x#4 as y#5 ) = ( f@3 , g@2 , x@4 , y@5 ) and g#6 f#7 = ( f@7 , g@6 )")
	means(t, "", "datatype t#1 = C#2 | D#3 of t@1 fun f#4 C@2 ( C@2 , D@3 x#5 ) = x@5")
	means(t, "", "val x#1 = fn x#2 => fn y#3 => ( x@2 , y@3 ) val y#4 = x@1")
	means(t, "", "val x#1 = case 1 of x#2 => x@2 | ( y#3 , x#4 ) => fn y#5 => ( x@4 , y@5 ) val y#6 = x@1")
	means(t, "", "val op +#1 = 1 fun op -#2 ( op *#3 ) x#4 = x@4 *@3 x@4 +@1 x@4 -@2 1 val y#5 = 1 +@1 2 -@2 op +@1")
	for _, s := range []string{
		"fun f !A = 1", "fun f#1 x#2 = x@2 and g#3 y#4 = !x", "fun f#1 x#2 = f@1 val y = !x", "val f = fn x => !f", "val x#1 = ( ( fn y#2 => y@2 ) !y )",
		"val x#1 = case 1 of y#2 => y@2 | z#3 => !y", "val x#1 = case !y of y => 1", "val x#1 = 1 !+ 2", "fun f#1 x#2 = x@2 and g#3 !C = 1",
	} {
		lost(t, s)
	}
}

// P14.1: a datatype's types are there in all of it, its constructors behind it.
func TestDatatypes(t *testing.T) {
	means(t, "", "type u#0 = 'a datatype t#1 = A#2 | B#3 of t@1 * u@4 and u#4 = C#5 of t@1 | D#6 type v#7 = ( t@1 , u@4 ) t@1 val x#8 = ( A@2 , B@3 , C@5 , D@6 )")
	means(t, "", "datatype t#1 = A#2 datatype t#3 = A#4 of t@3 | B#5 val x#6 = A@4 val B@5 = A@4")
	means(t, "", "signature S#1 = sig datatype t#2 = A#3 of t@2 | B#4 of u@5 and u#5 = C#6 val x#7 : t@2 * u@5 end")
	for _, s := range []string{"datatype t = A of !u", "datatype t#1 = A#2 of t@1 val x = !B", "datatype t = A of !v type v = 'a", "signature S#1 = sig datatype t#2 = A#3 end val x = !A"} {
		lost(t, s)
	}
}

// P14.1: local and let: the second kid has all of the first one's; behind a local is what its second kid has.
func TestLocals(t *testing.T) {
	means(t, "", "val x#1 = 1 local val x#2 = x@1 val y#3 = x@2 in val z#4 = ( x@2 , y@3 ) val x#5 = x@2 val w#6 = x@5 end val v#7 = ( x@5 , z@4 , w@6 )")
	means(t, "", "val x#1 = 1 local val x#2 = 2 in end val y#3 = x@1 local in val x#4 = 1 end val z#5 = x@4")
	means(t, "", "val x#1 = let val y#2 = 1 val y#3 = y@2 in fn x#4 => ( x@4 , y@3 ) end val y#5 = x@1")
	means(t, "", "val a#0 = 1 local local val a#1 = 1 in val b#2 = a@1 end val a#3 = b@2 in local val b#4 = ( a@3 , b@2 ) in val c#5 = b@4 end val d#6 = ( b@2 , c@5 ) end val e#7 = ( a@0 , c@5 , d@6 )")
	means(t, "", "structure M#1 = struct local val x#2 = 1 in val y#3 = x@2 end local in local in val x#4 = y@3 end end end val z#5 = ( M@1 . x@4 , M@1 . y@3 )")
	for _, s := range []string{
		"local val x#1 = 1 in val y#2 = x@1 end val z = !x", "local val x#1 = !y in val y = 1 end", "val x#1 = let val y#2 = 1 in y@2 end val z = !y",
		"val x#1 = let val z#2 = !y val y = 1 in 1 end", "structure M#1 = struct local val x#2 = 1 in end end val y = M@1 . !x", "local local val x#1 = 1 in val y#2 = x@1 end in val z = !x end",
	} {
		lost(t, s)
	}
}

// P14.1, P14.2: what structures and signatures have; sealed ones have what the signature has.
func TestHas(t *testing.T) {
	const s = "signature S#1 = sig val x#2 : 'a end "
	means(t, "", "structure M#1 = struct val x#2 = 1 val x#3 = 2 structure N#4 = struct val x#5 = x@3 end end structure N#6 = M@1 . N@4 structure O#7 = M@1 val z#8 = ( M@1 . x@3 , N@6 . x@5 , O@7 . N@4 . x@5 )")
	means(t, "2-4", s+"structure M#3 :> S@1 = struct val x#4 = 1 val y#5 = 2 end val z#6 = M@3 . x@2")
	means(t, "2-5 2-3", s+"structure M#4 : sig val x#3 : 'a end = struct val x#5 = 1 end :> S@1 val z#6 = M@4 . x@3")
	means(t, "3-5 2-3", s+"structure M#4 = struct val x#5 = 1 end : sig val x#3 : 'a end : S@1 structure N#6 = M@4 val y#8 = N@6 . x@2")
	means(t, "2-4", s+"structure M#3 : S@1 = struct val x#4 = 1 end structure N#5 : S@1 = M@3 structure O#6 = N@5 : S@1 open O@6 val y#7 = x@2")
	means(t, "2-5 6-4 2-7", s+"structure N#3 = struct val x#5 = 1 end structure M#9 : sig structure N#4 : S@1 end = struct structure N#6 = N@3 end structure O#8 : S@1 = struct val x#7 = M@9 . N@4 . x@2 end")
	means(t, "2-6", s+"structure M#3 : S@1 = struct local val x#4 = 1 in val x#6 = x@4 end end val y#7 = M@3 . x@2")
	means(t, "2-6 3-7 4-8 5-9", "signature S#1 = sig datatype t#2 = A#3 | B#4 of t@2 type u#5 end structure M#10 : S@1 = struct datatype t#6 = A#7 | B#8 of t@6 type u#9 = t@6 end val x#11 = M@10 . A@3")
	means(t, "", s+"structure M#3 : sig end = struct val x#4 = 1 end")
	for _, c := range []string{
		"structure M#1 = struct end val x = M@1 . !x", "structure M#1 = struct type x#2 = 'a end val x = M@1 . !x", "val x#1 = 1 structure M#2 = struct val y#3 = x@1 end val z = M@2 . !x",
		s + "structure M#3 : S@1 = struct val x#4 = 1 val y#5 = 1 end val z = M@3 . !y", s + "structure M#3 = struct val x#4 = 1 end : sig end val z = M@3 . !x",
		"structure M#1 = struct val x#2 = !M . x end", "structure M#1 = struct end open M@1 . !N", "structure M#1 = struct end : !S", "structure M = !F ( struct end )",
		s + "structure M = !S",
	} {
		lost(t, c)
	}
}

// P14.1, P14.2: opens and includes have what their structure and signature have; the last one first.
func TestOpens(t *testing.T) {
	const m = "structure M#1 = struct val x#2 = 1 type t#3 = 'a datatype d#4 = A#5 structure N#6 = struct val y#7 = 1 end end "
	means(t, "", m+"open M@1 val z#8 = x@2 type u#9 = t@3 * d@4 val A@5 = A@5 open N@6 val v#11 = ( y@7 , x@2 )")
	means(t, "", m+"val x#8 = 1 open M@1 val z#9 = x@2 val x#10 = x@2 val z#11 = x@10 open M@1 . N@6 val w#12 = ( x@10 , y@7 ) open M@1 val z#13 = x@2")
	means(t, "", m+"val z#8 = let open M@1 in x@2 end structure O#9 = struct open M@1 val z#10 = x@2 end val z#11 = ( O@9 . x@2 , O@9 . N@6 . y@7 ) open O@9", "val z#12 = ( x@2 , z@10 , N@6 . y@7 )")
	means(t, "", m+"structure O#8 = struct open M@1 end structure P#9 = struct open O@8 open M@1 val x#10 = x@2 end local open P@9 in open O@8 val a#11 = x@2 end val b#12 = x@2 open P@9 val c#13 = x@10")
	means(t, "", "structure M#1 = struct end open M@1 open M@1 val x#2 = 1 open M@1 val y#3 = x@2")
	means(t, "2-7 3-8 4-9", "signature S#1 = sig val x#2 : 'a type t#3 end signature T#5 = sig include S@1 val y#4 : t@3 end structure M#6 : T@5 = struct val x#7 = 1 type t#8 = 'a val y#9 = 1 end val z#10 = ( M@6 . x@2 , M@6 . y@4 )")
	means(t, "", "signature S#1 = sig include sig type t#2 end include sig structure M#3 : sig type t#4 end end type u#5 = t@2 * M@3 . t@4 end")
	means(t, "2-4 2-8 3-9 6-10", "signature S#1 = sig val x#2 : 'a structure N#3 : sig val z#6 : 'a end end structure M#5 = struct structure N#9 = struct val z#10 = 1 end val x#4 = 1 end structure O#7 : S@1 = struct open M@5 end structure P#11 : S@1 = struct open M@5 val x#8 = 1 end")
	for _, c := range []string{
		m + "structure O#8 = struct local open M@1 in end end open O@8 val z = !x", m + "val z#8 = let open M@1 in x@2 end val y = !x", "structure M#1 = struct open !N end",
		"signature S#1 = sig include !T end", "signature S#1 = sig val x#2 : 'a end signature T#3 = sig include S@1 val y#4 : !t end",
		m + "structure O#8 : sig end = struct open M@1 end open O@8 val z = !x",
	} {
		lost(t, c)
	}
}

// P14.1, P14.2: a where's path is looked for in its signature, its type around it.
func TestWheres(t *testing.T) {
	means(t, "", "signature S#1 = sig type t#2 structure M#3 : sig type u#4 end end type t#5 = 'a signature T#6 = S@1 where type t@2 = t@5 where type M@3 . u@4 = t@5 * t@5 signature U#7 = T@6 where type t@2 = t@5")
	means(t, "", "structure M#1 = struct type t#2 = 'a end signature S#3 = sig structure M#4 : sig type t#5 end end where type M@4 . t@5 = M@1 . t@2")
	means(t, "", "type u#1 = 'a signature S#2 = sig type t#3 include sig type u#4 type v#5 end where type u@4 = t@3 where type v@5 = u@1 type w#6 = u@4 end")
	means(t, "2-6", "signature S#1 = sig type t#2 end structure M#3 : S@1 where type t@2 = 'a = struct type u#4 = 'a type t#6 = u@4 end")
	for _, c := range []string{
		"type t#1 = 'a signature S#2 = sig end where type !t = 'a", "signature S#1 = sig type t#2 end where type t@2 = !t", "signature S#1 = sig type t#2 end where type t@2 = 'a where type !u = 'a",
		"structure M#1 = struct type t#2 = 'a end signature S#3 = sig structure N#4 : sig end end where type !M . t = 'a", "signature S#1 = sig structure N#2 : sig end type t#3 end where type N@2 . !t = 'a",
	} {
		lost(t, c)
	}
}

// P14.1, P14.2: functors: the parameter is there but in its own signature; what is held against a signature.
func TestFunctors(t *testing.T) {
	const s = "signature S#1 = sig val x#2 : 'a end "
	means(t, "2-8", s+"functor F#3 ( X#4 : S@1 ) = struct val y#5 = X@4 . x@2 end structure A#7 = struct val x#8 = 1 end structure M#9 = F@3 ( A@7 ) val z#10 = M@9 . y@5")
	means(t, "2-8 2-6", s+"functor F#3 ( X#4 : S@1 ) :> S@1 = struct val x#6 = 1 end structure M#9 = F@3 ( F@3 ( struct val x#8 = 1 end ) ) val z#10 = M@9 . x@2")
	means(t, "2-8 6-2", s+"functor F#3 ( X#4 : S@1 ) : sig val x#6 : 'a end = X@4 structure M#9 = F@3 ( struct val x#8 = 1 end ) val z#10 = M@9 . x@6")
	means(t, "7-8", "structure X#1 = struct type t#2 = 'a end functor F#3 ( X#4 : sig type t#5 type u#6 = X@1 . t@2 end ) : sig type v#7 = X@4 . t@5 end where type v@7 = X@4 . u@6 = struct type v#8 = X@4 . t@5 end type w#9 = X@1 . t@2")
	means(t, "", "functor F#1 ( F#2 : sig end ) = F@2 functor G#3 ( X#4 : sig end ) = F@1 ( X@4 ) functor F#5 ( X#6 : sig end ) = F@1 ( G@3 ( X@6 ) )")
	means(t, "2-8 2-11", s+"functor F#3 ( X#4 : S@1 ) = struct structure Y#5 = X@4 end structure M#6 = F@3 ( struct val x#8 = 1 end ) structure N#7 = F@3 ( struct val x#11 = M@6 . Y@5 . x@2 end ) open N@7 val z#10 = Y@5 . x@2")
	means(t, "2-4 3-6 5-7", "functor F#1 ( X#0 : sig val x#2 : 'a structure N#3 : sig val y#5 : 'a end end ) = struct end structure M#10 = F@1 ( struct val x#4 = 1 structure N#6 = struct val y#7 = 1 val x#8 = 1 end end )")
	means(t, "1-9", "signature A#0 = sig val x#1 : 'a end functor A#2 ( A#3 : A@0 ) = struct val y#4 = A@3 . x@1 datatype a#5 = A#6 of 'a structure B#7 = A@3 end structure A#8 = struct val x#9 = 1 end structure A#10 = A@2 ( A@8 ) val z#11 = ( A@10 . A@6 , A@10 . y@4 , A@10 . B@7 . x@1 )")
	for _, c := range []string{
		"functor F ( X : sig type t = !X . t end ) = struct end", "functor F#1 ( X#2 : sig end ) = !F ( X )", "functor F#1 ( X#2 : sig end ) = X@2 structure M = !X",
		s + "functor F#3 ( X#4 : S@1 ) = struct val y#5 = X@4 . !y end", s + "functor F#3 ( X#4 : S@1 ) = struct end structure M#5 = F@3 ( struct val x#6 = 1 end ) val y = M@5 . !x",
		"functor F#1 ( X#2 : sig end ) : sig end = struct val x#3 = 1 end structure M#4 = F@1 ( struct end ) val y = M@4 . !x", "functor F#1 ( X#2 : !S ) = struct end",
	} {
		lost(t, c)
	}
}

// P14.2: of what a signature asks for something is missed.
func TestMissed(t *testing.T) {
	for _, c := range []string{
		"structure M : sig val x : 'a end = struct end",
		"structure M = struct end : sig type t end",
		"structure M = struct val x = 1 end :> sig type x end",
		"structure M = struct local val x = 1 in end end : sig val x : 'a end",
		"val x = 1 structure M : sig val x : 'a end = struct end",
		"signature S = sig val x : 'a end structure M : sig include S end = struct end",
		"signature S = sig structure N : sig val x : 'a end end structure M : S = struct structure N = struct end end",
		"signature S = sig structure N : sig val x : 'a end end structure M : S = struct structure N = struct val x = 1 end : sig end end",
		"structure M = struct datatype t = A end : sig datatype t = A | B end",
		"functor F ( X : sig val x : 'a end ) = struct end structure M = F ( struct val y = 1 end )",
		"functor F ( X : sig end ) : sig val x : 'a end = X",
		"functor F ( X : sig val x : 'a end ) : sig end = X structure M = F ( F ( struct val x = 1 end ) )",
		"structure M = struct val x = 1 end structure N = struct structure O = struct open M end : sig val x : 'a val y : 'a end end",
		"signature S = sig val x : 'a end structure M : S = struct val x = 1 end structure N : S = struct val y = 1 end",
		"structure M : sig val x : 'a end = struct end val y = 1 val z = y",
	} {
		u := load(t, texts(c)...)
		if _, fault := resolve.Resolve(u); fault.Err != api.ErrMatch {
			t.Errorf("%q: %v", c, fault)
		}
		if l, ok := find.New(u).Links(); len(l) != 0 || ok {
			t.Errorf("%q: %v %v", c, l, ok)
		}
	}
}

// P14.5: names of any space, where a use stands.
func TestLook(t *testing.T) {
	const a = "val x#1 = 1 type x#2 = 'a datatype d#3 = A#4 structure A#5 = struct val y#6 = 1 end signature A#7 = sig type t#8 end functor A#9 ( B#10 : A@7 ) = struct end "
	finds(t, "vx=1 tx=2 td=3 cA=4 sA=5 gA=7 fA=9 vy= tt= sB= vA= cx= tA= vz=", a+"val z = !x")
	finds(t, "vx=1 tx=2 sA=5 gA=7 fA=9", a+"open !A")
	finds(t, "vx=1 tx=2 sA=5 gA=7 fA=9", a+"structure C = !A")
	finds(t, "vx=1 tx=2 sA=5 gA=7 fA=9 tt=", a+"signature C = !A")
	finds(t, "vx=1 tx=2 sA=5 gA=7 fA=9 sB=", a+"structure C = !A ( struct val t = 1 end )")
	finds(t, "vx=1 tx=2 sA=5 gA=7 fA=9 vy=6", a+"open A@5 type t = !x")
	finds(t, "vx=1 vy= cA=4", a+"val !A = 1 open A")
	finds(t, "vx=1 v+= sA=5", a+"val y = x@1 !+ x@1")
	finds(t, "vx=1 vy=6", a+"val z = let open A@5 in ( !A . y ) end")
	finds(t, "vx=20 vy=21 vf=23 vg=24 tx=2", a+"fun f#23 ( x#20 , y#21 ) = !x and g#24 z = 1")
	finds(t, "vx=1 vy= vf=23 vg=24 vz= cA=4", a+"fun f#23 ( x#20 , y#21 ) = 1 and g#24 z#25 !A = 1")
	finds(t, "vx=1 vz= vw=", a+"val z = ( !x , fn w => w )")
	finds(t, "vx=1 vz=20 vw=21 vv=", a+"fun f z#20 = fn w#21 => case 1 of v => v | _ => !w")
	finds(t, "td=21 te=22 cA=4 cB= cC= tx=2", a+"datatype d#21 = B of !d | C and e#22 = D")
	finds(t, "sB=21 sA=5 tt= fC= vx=1", a+"functor C ( B#21 : A@7 ) = struct structure D = !B end")
	finds(t, "sB= sA=5 tt=22 fC=", a+"functor C ( B#21 : sig type t#22 type u = !t end ) = struct end")
	finds(t, "sB=21 tt= fC= gA=7", a+"functor C ( B#21 : A@7 ) : !A = struct end")
	finds(t, "vx=1 vw= vv=21 vz=", a+"local val w = 1 in val v#21 = 1 end val z = !x")
	finds(t, "vx=1 vw=20 vv=21 vz=", a+"local val w#20 = 1 in val v#21 = 1 val z = !x end")
	finds(t, "vx=1 vw= vv=21", a+"local local val w#20 = 1 in val v#21 = 1 end in val z = !x end")
	finds(t, "tt=20 tu= vx=1 tx=2", a+"signature C = sig type t#20 val w : !x type u end")
	finds(t, "tt=8 tu= vx=1 tx=2", a+"signature C = sig include A@7 val w : !x type u end")
	finds(t, "vx=1 tt= gC= gA=7", a+"signature C = sig include !A val w : 'a type u end")
	finds(t, "vx=1 tx=2 vz=20", a+"val z#20 = 1", "", "val y = !x", "val x = 1")
}

// P14.5: where a where's path stands its signature is looked in, and nothing else.
func TestLookWhere(t *testing.T) {
	const a = "type x#1 = 'a signature S#2 = sig type t#3 structure M#4 : sig type u#5 end val y#6 : 'a datatype d#7 = D#8 end "
	finds(t, "tt=3 sM=4 vy=6 td=7 cD=8 tx= gS= tu=", a+"signature T = S@2 where type !t = x@1")
	finds(t, "tt=3 sM=4 vy=6 td=7 cD=8 tx= gS= tu=", a+"signature T = S@2 where type !M . u = x@1")
	finds(t, "tt= sM= vy= td= cD= tx=1 gS=2 tu=", a+"signature T = S@2 where type t@3 = !x")
	finds(t, "tt= sM= tx=1 gS=2 gT=", a+"signature T = !S where type t@3 = 'a")
	finds(t, "tt=3 sM=4 tx= tz=9", a+"signature T#10 = sig include S@2 type z#9 = x@1 end where type t@3 = 'a where type !z = 'a")
	finds(t, "tt=3 sM=4 tx= tz=9", a+"signature T#10 = sig include S@2 type z#9 = x@1 end structure N : T@10 where type !z = 'a = struct end")
}

// P14.5: of names that declare, and of those behind a dot, nothing.
func TestLookOfOthers(t *testing.T) {
	const a = "val x#1 = 1 structure M#2 = struct structure N#3 = struct val x#4 = 1 type t#5 = 'a end end "
	finds(t, "vx= sM= sN= tt=", a+"val y = M@2 . !N . x@4")
	finds(t, "vx= sM= sN= tt=", a+"val y = M@2 . N@3 . !x")
	finds(t, "vx= sM= sN= tt=", a+"open M@2 . !N")
	finds(t, "vx= sM= sN= tt=", a+"type u = M@2 . N@3 . !t")
	finds(t, "vx= sM= sN= tt=", a+"val !y = x@1")
	finds(t, "vx= sM= sN= tt=", a+"structure !O = M@2")
	finds(t, "vx= sM= sN= tt=", a+"functor F ( !X : sig end ) = M@2")
	finds(t, "tt= tu=", "signature S = sig structure M : sig type t#5 end type u end where type M . !t = 'a")
	finds(t, "vx=1 sM=2 sN= tt=", a+"val y = !M . N@3 . x@4")
}
