package ast_test

import (
	"math"
	"math/rand/v2"
	"reflect"
	"slices"
	"strconv"
	"strings"
	"testing"

	"oriel/api"
	"oriel/ast"
	"oriel/lex"
	"oriel/name"
	"oriel/parse"
	"oriel/tree"
)

// letters is how spaces are drawn: of what uses; of what declares great.
const letters = "-vctsgf"

// kindNames is how kinds of nodes are drawn.
var kindNames = strings.Fields(`- file decs val fun fbind type data dbind con str sig functor open local struct path apply seal
	body siguse where valspec tyspec strspec include int text var conuse tuple if case arm fn let call infix any bind as tyvar tyuse arrow prod`)

// drawOccs is each occurrence as its bytes and its space's letter.
func drawOccs(s string, l []api.Occ) string {
	var out []string
	for _, o := range l {
		letter := letters[o.Space : o.Space+1]
		if o.Decl {
			letter = strings.ToUpper(letter)
		}
		out = append(out, s[o.At:o.End]+":"+letter)
	}
	return strings.Join(out, " ")
}

// draw is n as a text: its kind, its mark (! for each), its place, its occurrences behind #, and its kids.
func draw(n api.Node) string {
	s := kindNames[n.Kind] + strings.Repeat("!", n.Mark) + strconv.Itoa(n.At) + "-" + strconv.Itoa(n.End)
	for _, o := range n.Occs {
		s += "#" + strconv.Itoa(o)
	}
	var kids []string
	for _, kid := range n.Kids {
		kids = append(kids, draw(kid))
	}
	if kids != nil {
		s += "(" + strings.Join(kids, " ") + ")"
	}
	return s
}

// empty says whether n is the node that is zero.
func empty(n api.Node) bool {
	return n.Kind == 0 && n.Mark == 0 && n.At == 0 && n.End == 0 && len(n.Occs) == 0 && len(n.Kids) == 0
}

// sameNode says whether a and b are the same, places and all.
func sameNode(a, b api.Node) bool {
	return a.Kind == b.Kind && a.Mark == b.Mark && a.At == b.At && a.End == b.End &&
		slices.Equal(a.Occs, b.Occs) && slices.EqualFunc(a.Kids, b.Kids, sameNode)
}

// file is a file that is one, and its occurrences.
func file(t *testing.T, s string) (api.Node, []api.Occ) {
	t.Helper()
	n, l, at, err := ast.File(s, 0, 0)
	if at != 0 || err != api.OK {
		t.Fatalf("%.300q: %d %v", s, at, err)
	}
	return n, l
}

// P8.1, P8.2: what each name is, construct by construct.
var drawnOccs = []struct{ text, want string }{
	{"", ""},
	{" (* x *) ; ", ""},
	{"val x = M.y + 1", "x:V M:s y:v +:v"},
	{"val 1 = \"x\"", ""},
	{"val (x, _, (y)) = ()", "x:V y:V"},
	{"val x as y as A z = x", "x:V y:V A:c z:V x:v"},
	{"val M.N.A (B x) = M.N.A (B x)", "M:s N:s A:c B:c x:V M:s N:s A:c B:c x:v"},
	{"val op + = op +", "+:V +:v"},
	{"val x = a + b * M.c < op -", "x:V a:v +:v b:v *:v M:s c:v <:v -:v"},
	{"val x = f x M.y A M.A 1", "x:V f:v x:v M:s y:v A:c M:s A:c"},
	{"val x = if a then b else c", "x:V a:v b:v c:v"},
	{"val x = case y of A z => z | M.B => 1", "x:V y:v A:c z:V z:v M:s B:c"},
	{"val f = fn x => fn y => x", "f:V x:V y:V x:v"},
	{"val x = let open M fun f y = y in f end", "x:V M:s f:V y:V y:v f:v"},
	{"fun f x A M.B (y, z) = x and op + _ = y", "f:V x:V A:c M:s B:c y:V z:V x:v +:V y:v"},
	{"type t = u", "t:T u:t"},
	{"type ('a, 'b) t = (M.u, 'a) N.O.v w * 'b -> x", "t:T M:s u:t N:s O:s v:t w:t x:t"},
	{"datatype 'a t = A of M.t * 'a | B and u = C", "t:T A:C M:s t:t B:C u:T C:C"},
	{"structure M = N.O", "M:S N:s O:s"},
	{"structure M : S = F (G (N))", "M:S S:g F:f G:f N:s"},
	{"structure M = struct val x = 1 structure N = M end :> S", "M:S x:V N:S M:s S:g"},
	{"signature S = T where type M.t = N.u", "S:G T:g M:s t:t N:s u:t"},
	{"signature S = sig val x : 'a val op + : t type u = v type 'a w datatype t = A of B.t structure M : T include U end",
		"S:G x:V +:V t:t u:T v:t w:T t:T A:C B:s t:t M:S T:g U:g"},
	{"functor F (X : S) : T = X", "F:F X:S S:g T:g X:s"},
	{"functor F (F : F) = F (F)", "F:F F:S F:g F:f F:s"},
	{"open M.N open O", "M:s N:s O:s"},
	{"local open M in val x = y end", "M:s x:V y:v"},
}

func TestDrawnOccs(t *testing.T) {
	for _, d := range drawnOccs {
		_, l, at, err := ast.File(d.text, 3, 100)
		if got := drawOccs(d.text, l); got != d.want || at != 0 || err != api.OK {
			t.Errorf("%q: %d %v\n got %s\nwant %s", d.text, at, err, got, d.want)
		}
		for _, o := range l {
			if o.File != 3 {
				t.Errorf("%q: %v", d.text, o)
			}
		}
	}
}

// P8.1, P8.2: nodes with their places, their marks and the numbers of their occurrences.
var drawnNodes = []struct {
	text  string
	first int
	want  string
}{
	{"", 0, "file0-0"},
	{"", 7, "file0-0"},
	{" (* x *)\n", 0, "file9-9"},
	{" ;  ; ", 0, "file1-5"},
	{"val x = M.y + 1", 0, "file0-15(val0-15(bind4-5#0 infix8-15#3(var8-11#1#2 int14-15)))"},
	{"val x = M.y + 1", 40, "file0-15(val0-15(bind4-5#40 infix8-15#43(var8-11#41#42 int14-15)))"},
	{"val x = 1", -1, "file0-9(val0-9(bind4-5#-1 int8-9))"},
	{" val  x(* *)=  (1) ; ", 0, "file1-20(val1-18(bind6-7#0 int16-17))"},
	{"val x = let in  y end", 0, "file0-21(val0-21(bind4-5#0 let8-21(decs12-12 var16-17#1)))"},
	{"local  (* *)  in ;  end", 0, "file0-23(local0-23(decs14-14 decs17-18))"},
	{"structure M : S = struct end :> S", 0, "file0-33(str!0-33#0(siguse14-15#1 seal!!18-33(struct18-28 siguse32-33#2)))"},
	{"functor F (X : S) :> S = X", 5, "file0-26(functor!!0-26#5#6(siguse15-16#7 siguse21-22#8 path25-26#9))"},
	{"type t = 'a t M.u", 0, "file0-17(type0-17#0(tyuse9-17#2#3(tyuse9-13#1(tyvar9-11))))"},
	{"signature S = T where type t = u where type M.v = w", 0,
		"file0-51(sig0-51#0(where14-51#4#5(where14-32#2(siguse14-15#1 tyuse31-32#3) tyuse50-51#6)))"},
	{"val x = a + b * c", 0, "file0-17(val0-17(bind4-5#0 infix8-17#2#4(var8-9#1 var12-13#3 var16-17#5)))"},
}

func TestDrawnNodes(t *testing.T) {
	for _, d := range drawnNodes {
		n, _, at, err := ast.File(d.text, 0, d.first)
		if got := draw(n); got != d.want || at != 0 || err != api.OK {
			t.Errorf("%q: %d %v\n got %s\nwant %s", d.text, at, err, got, d.want)
		}
	}
}

// P8.2: a text that is no file is refused as parse refuses it, and nothing else is told.
func TestNoFile(t *testing.T) {
	for _, s := range []string{
		"val x =", "x", "val x = 1 in", "signature s = T", "1x", "val x = \"", "val (* y", "val x = \x00", "fun f = 1",
		"val x = " + strings.Repeat("(", api.MaxNest), "structure M = struct signature S = T end", "val val 1x",
	} {
		_, wantAt, want := parse.File(s)
		n, l, at, err := ast.File(s, 1, 2)
		if want == api.OK || at != wantAt || err != want || !empty(n) || len(l) != 0 {
			t.Errorf("%.300q: %d %v %v %v, not %d %v", s, at, err, n, l, wantAt, want)
		}
	}
}

// nodeOf is the node that a branch is to be, its names' numbers being told.
func nodeOf(b api.Branch, words []api.Token, numbers map[int]int) api.Node {
	n := api.Node{Kind: b.Kind, Mark: b.Mark, At: words[b.From].At, End: words[b.From].At}
	if b.To > b.From {
		n.End = words[b.To-1].End
	}
	for _, tok := range b.Names {
		n.Occs = append(n.Occs, numbers[tok])
	}
	for _, kid := range b.Kids {
		n.Kids = append(n.Kids, nodeOf(kid, words, numbers))
	}
	return n
}

// P8.1, P8.2: made files have the occurrences with which they were made, and the nodes of their branches.
func TestMade(t *testing.T) {
	for seed := range uint64(400) {
		m := newMaker(seed, 60)
		s, at := m.laid(func() string { return " " })
		firstNumber, fileNumber := int(seed)%7-1, int(seed)%3-1
		n, l, where, err := ast.File(s, fileNumber, firstNumber)
		if where != 0 || err != api.OK {
			t.Fatalf("%s: %d %v", s, where, err)
		}
		if want := m.occs(fileNumber, at); !slices.Equal(l, want) {
			t.Fatalf("%s:\n got %s\nwant %s", s, drawOccs(s, l), drawOccs(s, want))
		}
		numbers := map[int]int{}
		for i, p := range m.names {
			numbers[p.token] = firstNumber + i
		}
		b, _, _ := parse.File(s)
		if want := nodeOf(b, lex.Words(s), numbers); !sameNode(n, want) {
			t.Fatalf("%s:\n got %s\nwant %s", s, draw(n), draw(want))
		}
		if n2, l2, ok := ast.Lower(b, s, fileNumber, firstNumber); !ok || !sameNode(n, n2) || !slices.Equal(l, l2) {
			t.Fatalf("%s: Lower %v %s", s, ok, draw(n2))
		}
	}
}

// P8.4: each number is that of one occurrence, which stands in one node, once, and whose bytes may be a name of its space.
func TestEachOnce(t *testing.T) {
	for seed := range uint64(200) {
		s, _ := newMaker(seed, 80).laid(func() string { return "\n" })
		n, l, _, _ := ast.File(s, 0, 10)
		var met []int
		for _, part := range every(&n) {
			met = append(met, part.Occs...)
		}
		slices.Sort(met)
		if len(met) != len(l) {
			t.Fatalf("%s: %v", s, met)
		}
		for i, occ := range met {
			o := l[i]
			if occ != 10+i || !name.May(o.Space, s[o.At:o.End]) || i > 0 && o.At < l[i-1].End {
				t.Fatalf("%s: %d %v", s, occ, o)
			}
		}
	}
}

// P8.5: blanks and notes change places alone; and more bytes ahead put all places off by as many.
func TestSpacing(t *testing.T) {
	gaps := []string{" ", "\n", "\t \r\n", " (* val x = 1 *) ", "(* (* *) \" *)\n", "  "}
	for seed := range uint64(200) {
		m := newMaker(seed, 60)
		rng := rand.New(rand.NewPCG(seed, 9))
		s, _ := m.laid(func() string { return " " })
		spaced, at := m.laid(func() string { return gaps[rng.IntN(len(gaps))] })
		a, _ := file(t, s)
		b, l := file(t, spaced)
		if !ast.Alike(a, b) || !slices.Equal(l, m.occs(0, at)) {
			t.Fatalf("%q:\n got %s\nwant %s", spaced, draw(b), draw(a))
		}
		for _, ahead := range gaps {
			c, k := file(t, ahead+spaced)
			for _, part := range every(&c) {
				part.At -= len(ahead)
				part.End -= len(ahead)
			}
			for i := range k {
				k[i].At -= len(ahead)
				k[i].End -= len(ahead)
			}
			if !sameNode(b, c) || !slices.Equal(l, k) {
				t.Fatalf("%q ahead of %q:\n got %s\nwant %s", ahead, spaced, draw(c), draw(b))
			}
		}
	}
}

// every is pointers to n and all below it, each ahead of its kids, in order.
func every(n *api.Node) []*api.Node {
	all := []*api.Node{n}
	for i := range n.Kids {
		all = append(all, every(&n.Kids[i])...)
	}
	return all
}

// spaces is, of each kind that has names, which they are: letters of spaces, the first one standing for any number, none too, if a * stands behind it.
var spaces = map[int]string{
	api.NdFbind: "V", api.NdBind: "V", api.NdAs: "V", api.NdValSpec: "V",
	api.NdType: "T", api.NdDbind: "T", api.NdTySpec: "T", api.NdCon: "C",
	api.NdStr: "S", api.NdStrSpec: "S", api.NdSig: "G", api.NdFunctor: "FS",
	api.NdInfix: "v*v", api.NdSigUse: "g", api.NdApply: "f",
	api.NdOpen: "s*s", api.NdPath: "s*s", api.NdVar: "s*v", api.NdConUse: "s*c", api.NdTyUse: "s*t", api.NdWhere: "s*t",
}

// spacesOf is the letters of the spaces of n names of a kind; false, if it may not have so many.
func spacesOf(kind, n int) (string, bool) {
	want := spaces[kind]
	if ahead, last, path := strings.Cut(want, "*"); path && n > 0 {
		want = strings.Repeat(ahead, n-1) + last
	}
	return want, len(want) == n
}

// kinds is all kinds, and some that are none.
func kinds() []int {
	l := []int{math.MinInt, math.MaxInt, -1, 1 << 32, 1<<32 + api.NdVar}
	for kind := range api.NdProd + 9 {
		l = append(l, kind)
	}
	return l
}

// P8.1: of each kind as many names as it may have, and of which spaces; whatever the tokens are.
func TestKinds(t *testing.T) {
	s := "a = (* *) B , + 1x end"
	for _, kind := range kinds() {
		for n := range 6 {
			for first := range 3 {
				b := api.Branch{Kind: kind, Mark: 9 - n, From: 0, To: 8}
				for i := range n {
					b.Names = append(b.Names, first+i)
				}
				node, l, ok := ast.Lower(b, s, 5, 100)
				want, may := spacesOf(kind, n)
				if ok != may {
					t.Fatalf("%d with %d names: %v", kind, n, ok)
				}
				if !ok {
					if !empty(node) || len(l) != 0 {
						t.Fatalf("%d with %d names: %v %v", kind, n, node, l)
					}
					continue
				}
				if node.Kind != kind || node.Mark != 9-n || node.At != 0 || node.End != len(s) || len(node.Occs) != n || len(l) != n {
					t.Fatalf("%d with %d names: %v %v", kind, n, node, l)
				}
				for i, o := range l {
					tok := lex.Words(s)[first+i]
					at := strings.IndexByte(strings.ToLower(letters), strings.ToLower(want)[i])
					if o != (api.Occ{File: 5, At: tok.At, End: tok.End, Space: at, Decl: want[i] < 'a'}) || node.Occs[i] != 100+i {
						t.Fatalf("%d with %d names: %v %v", kind, n, node, l)
					}
				}
			}
		}
	}
}

// P8.1: names go by their order in the list, occurrences' numbers by their tokens.
func TestNamesOutOfOrder(t *testing.T) {
	s := "x y z"
	n, l, ok := ast.Lower(api.Branch{Kind: api.NdVar, To: 3, Names: []int{2, 0, 1}}, s, 0, 4)
	if !ok || !slices.Equal(n.Occs, []int{6, 4, 5}) || drawOccs(s, l) != "x:s y:v z:s" {
		t.Fatal(ok, n, drawOccs(s, l))
	}
	b := api.Branch{Kind: api.NdFunctor, To: 3, Names: []int{2, 0}, Kids: []api.Branch{{Kind: api.NdSigUse, From: 1, To: 2, Names: []int{1}}}}
	n, l, ok = ast.Lower(b, s, 0, 0)
	if !ok || !slices.Equal(n.Occs, []int{2, 0}) || !slices.Equal(n.Kids[0].Occs, []int{1}) || drawOccs(s, l) != "x:S y:g z:F" {
		t.Fatal(ok, n, drawOccs(s, l))
	}
}

// P8.1: numbers wrap round, as ints do.
func TestLastNumbers(t *testing.T) {
	for _, first := range []int{math.MaxInt, math.MaxInt - 1, math.MinInt} {
		n, l, at, err := ast.File("open M.N", first, first)
		if err != api.OK || at != 0 || len(l) != 2 || l[1].File != first || !slices.Equal(n.Kids[0].Occs, []int{first, first + 1}) {
			t.Fatal(first, n, l, at, err)
		}
	}
}

// P8.1: a part's tokens have to be some of s, among which is the end; one without tokens has to stand ahead of one.
func TestTokens(t *testing.T) {
	part := func(from, to int, kids ...api.Branch) api.Branch {
		return api.Branch{Kind: api.NdTuple, From: from, To: to, Kids: kids}
	}
	s := " x  y " // two tokens and the end
	for _, c := range []struct {
		b    api.Branch
		want string
	}{
		{part(0, 0), "tuple1-1"},
		{part(0, 1), "tuple1-2"},
		{part(0, 2), "tuple1-5"},
		{part(0, 3), "tuple1-6"},
		{part(1, 1), "tuple4-4"},
		{part(1, 3), "tuple4-6"},
		{part(2, 2), "tuple6-6"},
		{part(2, 3), "tuple6-6"},
		{part(0, 3, part(0, 0), part(0, 2), part(2, 2), part(2, 3)), "tuple1-6(tuple1-1 tuple1-5 tuple6-6 tuple6-6)"},
		{part(3, 3), ""},
		{part(0, 4), ""},
		{part(3, 4), ""},
		{part(4, 4), ""},
		{part(-1, 0), ""},
		{part(-1, -1), ""},
		{part(1, 0), ""},
		{part(0, math.MaxInt), ""},
		{part(math.MaxInt, math.MaxInt), ""},
		{part(math.MinInt, math.MaxInt), ""},
		{part(0, 3, part(3, 3)), ""},
		{part(0, 3, part(0, 3, part(0, 3), part(3, 3))), ""},
		{part(0, 3, part(1, 2), part(0, 1)), ""},
		{part(0, 3, part(0, 2), part(1, 3)), ""},
		{part(0, 2, part(0, 3)), ""},
		{part(1, 2, part(0, 1)), ""},
		{part(0, 2, part(1, 0)), ""},
	} {
		n, l, ok := ast.Lower(c.b, s, 0, 0)
		if c.want == "" && (ok || !empty(n)) || c.want != "" && (!ok || draw(n) != c.want) || len(l) != 0 {
			t.Errorf("%v: %s %v %v, not %s", c.b, draw(n), l, ok, c.want)
		}
	}
}

// lowers says whether a branch can be lowered, as the chapter has it, word by word.
func lowers(b api.Branch, s string) bool {
	n := len(lex.Words(s))
	if !tree.Right(b) {
		return false
	}
	met := map[int]bool{}
	arena := tree.Make(b)
	for _, i := range arena.Walk(0) {
		part := arena.Branch(i)
		if part.From >= n || part.To > n {
			return false
		}
		if _, may := spacesOf(part.Kind, len(part.Names)); !may {
			return false
		}
		for _, tok := range part.Names {
			if met[tok] {
				return false
			}
			met[tok] = true
		}
	}
	return true
}

// parts is pointers to b and all its parts.
func parts(b *api.Branch) []*api.Branch {
	all := []*api.Branch{b}
	for i := range b.Kids {
		all = append(all, parts(&b.Kids[i])...)
	}
	return all
}

// P8.1: branches of which one thing has been changed, in themselves or a part.
func TestChanged(t *testing.T) {
	yes, no := 0, 0
	for seed := range uint64(150) {
		s, _ := newMaker(seed, 12).laid(func() string { return " " })
		words := len(lex.Words(s))
		rng := rand.New(rand.NewPCG(seed, 10))
		for range 150 {
			b, _, _ := parse.File(s)
			all := parts(&b)
			part := all[rng.IntN(len(all))]
			switch rng.IntN(7) {
			case 0:
				part.From += rng.IntN(5) - 2
			case 1:
				part.To += rng.IntN(5) - 2
			case 2:
				part.Kind = rng.IntN(api.NdProd + 2)
			case 3:
				part.Names = append(part.Names, rng.IntN(words+1)-1)
			case 4:
				part.Names = part.Names[:max(0, len(part.Names)-1)]
			case 5:
				if len(part.Names) > 0 {
					part.Names[rng.IntN(len(part.Names))] = rng.IntN(words+1) - 1
				}
			case 6:
				part.From, part.To = rng.IntN(words+2), rng.IntN(words+2)
				part.Kids = nil
			}
			n, l, ok := ast.Lower(b, s, 0, 0)
			if ok != lowers(b, s) || !ok && (!empty(n) || len(l) != 0) {
				t.Fatalf("%s: %+v: %v", s, b, ok)
			}
			if yes++; !ok {
				yes, no = yes-1, no+1
			}
		}
	}
	if yes < 1000 || no < 1000 {
		t.Fatal(yes, no)
	}
}

// P8.1: one token can't be a name in two parts, nor twice in one.
func TestTwice(t *testing.T) {
	for _, s := range []string{"x y", "x y z"} {
		v := func(names ...int) api.Branch { return api.Branch{Kind: api.NdVar, To: 2, Names: names} }
		around := v(0)
		around.Kids = []api.Branch{v(1)}
		if _, _, ok := ast.Lower(around, s, 0, 0); !ok {
			t.Fatal("refused", s)
		}
		around.Kids[0].Names[0] = 0
		for _, b := range []api.Branch{v(0, 0), v(1, 0, 1), around} {
			if n, l, ok := ast.Lower(b, s, 0, 0); ok || !empty(n) || len(l) != 0 {
				t.Fatal(s, b, n, l)
			}
		}
	}
}

// P1: the branch that is zero is that of no tokens.
func TestZero(t *testing.T) {
	for _, s := range []string{"", "x", " \x00"} {
		n, l, ok := ast.Lower(api.Branch{}, s, 0, 0)
		at := lex.Words(s)[0].At
		if !ok || !sameNode(n, api.Node{At: at, End: at}) || len(l) != 0 {
			t.Fatal(s, n, l, ok)
		}
	}
}

// P2, and rule 3: what is handed in stays as it is, and what is handed out hangs on nothing.
func TestOwn(t *testing.T) {
	s, _ := newMaker(3, 80).laid(func() string { return " " })
	b, _, _ := parse.File(s)
	asItWas, _, _ := parse.File(s)
	n, l, _ := ast.Lower(b, s, 0, 0)
	m, k, _ := ast.Lower(b, s, 0, 0)
	if !reflect.DeepEqual(b, asItWas) {
		t.Fatal("turned")
	}
	spoil(&n)
	for i := range l {
		l[i] = api.Occ{}
	}
	if !reflect.DeepEqual(b, asItWas) {
		t.Fatal("shared with the branch")
	}
	for _, part := range parts(&b) {
		for i := range part.Names {
			part.Names[i] = -1
		}
		part.Kind = -1
	}
	want, occs := file(t, s)
	if !sameNode(m, want) || !slices.Equal(k, occs) {
		t.Fatal("kept")
	}
}

// spoil turns all of n.
func spoil(n *api.Node) {
	for _, part := range every(n) {
		for i := range part.Occs {
			part.Occs[i] = -77
		}
		part.Occs = append(part.Occs, -78)
	}
	for _, part := range every(n) {
		part.Kind, part.Mark, part.At, part.End = -1, -2, -3, -4
		part.Kids = append(part.Kids, api.Node{Kind: -5})
	}
}

// P1: parts that lie deep in one another, and very many beside one another.
func TestDeepAndWide(t *testing.T) {
	const deep = 1 << 16
	n, l := file(t, "type t = u"+strings.Repeat(" v", deep))
	if len(l) != deep+2 || ast.Size(n) != deep+3 || !ast.Alike(n, n) || !slices.Equal(ast.Declared(n, l), []int{0}) {
		t.Fatal(len(l), ast.Size(n))
	}
	if all := ast.All(n, api.NdType); len(all) != 1 || ast.Size(all[0]) != deep+2 {
		t.Fatal(len(all))
	}
	n, l = file(t, strings.Repeat("val x = f x ", deep))
	if len(l) != 3*deep || ast.Size(n) != 1+5*deep || len(ast.All(n)) != 1+5*deep || len(ast.Declared(n, l)) != deep {
		t.Fatal(len(l), ast.Size(n))
	}
}
