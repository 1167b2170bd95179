package parse_test

import (
	"math/rand/v2"
	"slices"
	"strings"
	"testing"

	"oriel/api"
)

// nests is of each kind texts that have parts in them, as tokens: { and } stand around each part that counts, and must stand there, [ and ] around a declaration, ? and ! around a part in whose place a ) may stand. An @ and a kind stand for a part of that kind.
var nests = map[string][]string{
	"file": {"[ val { @pat } = { @exp } ] ; [ @dec ]", "[ local [ @dec ] in [ @dec ] end ]", "[ @dec ]", "; [ structure A = { @str } ]",
		"[ structure A : { @sig } = { @str } ]", "[ signature S = { @sig } ]", "[ functor F ( X : { @sig } ) = { @str } ]",
		"[ functor F ( X : { @sig } ) :> { @sig } = { @str } ]"},
	"dec": {"val { @pat } = { @exp }", "fun f ( ? @pat ! ) = { @exp } and op + x _ ( ? @pat ! , { @pat } ) = { @exp }", "type t = { @ty }",
		"datatype t = A of { @ty } | B and u = C of { @ty }", "local [ @dec ] in [ @dec ] end", "local in [ @dec ] end", "open A . B"},
	"str": {"A . B", "F ( { @str } )", "struct [ @dec ] end", "struct end", "struct ; [ structure A :> { @sig } = { @str } ] end", "A : { @sig } :> { @sig }",
		"F ( { @str } ) : { @sig }", "struct [ local [ structure A = { @str } ] in end ] end"},
	"sig": {"S", "sig end", "sig val x : { @ty } end", "sig ; structure A : { @sig } ; end", "sig include { @sig } end", "sig type t type u = { @ty } end",
		"sig datatype t = A of { @ty } end", "S where type A . t = { @ty }", "sig end where type t = { @ty } where type u = { @ty }"},
	"ty":  {"t", "'a", "( { @ty } )", "( { @ty } , { @ty } ) A . t", "t -> { @ty }", "( { @ty } ) t * t -> { @ty }", "t u v * t"},
	"pat": {"x", "_", "( )", "( ? @pat ! )", "( ? @pat ! , { @pat } )", "x as { @pat }", "A ( ? @pat ! )", "A . B x"},
	"exp": {"x", "1", "( )", "( ? @exp ! )", "( ? @exp ! , { @exp } )", "f ( ? @exp ! ) x", "x + ( ? @exp ! ) * y", "if { @exp } then { @exp } else { @exp }",
		"case { @exp } of { @pat } => { @exp }", "case { @exp } of { @pat } => { x } | { @pat } => { @exp }", "fn { @pat } => { @exp }",
		"let in { @exp } end", "let [ @dec ] ; [ @dec ] in { @exp } end", "f let [ val { @pat } = { @exp } ] in { x } end x"},
}

// simple is of each kind a text without others in it.
var simple = map[string]string{"dec": "open A", "str": "A", "sig": "S", "ty": "t", "pat": "x", "exp": "x", "file": ""}

// leading is how far kinds lead: what lies within a part may lead back to its kind just if its number is not greater.
var leading = map[string]int{"file": 2, "str": 1, "dec": 2, "exp": 2, "sig": 3, "pat": 4, "ty": 4}

// nested puts, behind all, a text of this kind, in braces, in which parts lie about as deep as told; only one way goes as deep.
func nested(rng *rand.Rand, all []string, kind string, deep int) []string {
	if deep <= 0 {
		return append(all, strings.Fields(simple[kind])...)
	}
	var shape []string
	down := -1 // where it goes deep: seldom to where nothing leads back from
	for astray := rng.IntN(400) == 0 || deep < 4; down < 0; {
		shape = strings.Fields(nests[kind][rng.IntN(len(nests[kind]))])
		for _, i := range rng.Perm(len(shape)) {
			if x := shape[i]; x[0] == '@' && (astray || leading[x[1:]] <= leading[kind]) {
				down = i
			}
		}
	}
	level := 0
	for i, x := range shape {
		switch {
		case i == down:
			all = nested(rng, all, x[1:], deep-level)
		case x[0] == '@':
			all = nested(rng, all, x[1:], rng.IntN(max(1, min(3, deep-level+1))))
		default:
			all = append(all, x)
			level += step(x)
		}
	}
	return all
}

// step is by how much the brace x makes deeper.
func step(x string) int {
	switch x {
	case "{", "[", "?":
		return 1
	case "}", "]", "!":
		return -1
	}
	return 0
}

// told is a text with its braces taken away: its tokens, how deep its parts lie, and the first one that lies too deep: the number of the token with which it begins, -1, if there is none, and its brace.
func told(shape []string) (tokens []string, deepest, first int, brace string) {
	level, first := 0, -1
	for _, x := range shape {
		n := step(x)
		level += n
		deepest = max(deepest, level)
		if level > api.MaxNest && first < 0 {
			first, brace = len(tokens), x
		}
		if n == 0 {
			tokens = append(tokens, x)
		}
	}
	return tokens, deepest, first, brace
}

// shapeOf is a text for a face, in braces.
func shapeOf(rng *rand.Rand, f face, deep int) []string {
	if f.start == "file" {
		return nested(rng, nil, f.start, deep)
	}
	return append(nested(rng, []string{"{"}, f.start, deep-1), "}")
}

// P7.1, P7.2: parts lie as deep as MaxNest, or deeper.
func TestDeep(t *testing.T) {
	g := readGrammar(grammar)
	rng := rand.New(rand.NewPCG(11, 4))
	met := map[int]int{}
	for _, f := range faces {
		for i := range 600 {
			shape := shapeOf(rng, f, api.MaxNest-3+i%5)
			tokens, deepest, first, _ := told(shape)
			met[deepest]++
			s := strings.Join(tokens, " ")
			if first < 0 {
				b, at, err := f.call(s)
				if at != 0 || err != api.OK || b.Kind == 0 {
					t.Fatalf("%s %.300q: %d %v, %d deep", f.start, s, at, err, deepest)
				}
				continue
			}
			refused(t, f, s, place(tokens, first), api.ErrDeep)
			if i%300 == 0 { // but for how deep it lies nothing is wrong with it
				if at, err := formed(g, f.start, s); err != api.OK {
					t.Fatalf("%s %.300q: %d", f.start, s, at)
				}
			}
		}
	}
	for deep := api.MaxNest - 2; deep <= api.MaxNest+2; deep++ {
		if met[deep] < 10 {
			t.Fatal("few texts are as deep as", deep, met[deep])
		}
	}
}

// place is where the n-th token stands, with one blank between each two.
func place(tokens []string, n int) int {
	ahead := strings.Join(tokens[:n], " ")
	if n > 0 {
		ahead += " "
	}
	return len(ahead)
}

// P7.1, P7.2: where a part must begin that would lie too deep it is ErrDeep, whatever stands there; where it need not, just if it begins.
func TestDeepOrWrong(t *testing.T) {
	rng := rand.New(rand.NewPCG(12, 4))
	begins := strings.Fields("val fun type datatype open local structure signature functor")
	met := map[string]int{}
	for _, f := range faces {
		for range 60 {
			tokens, _, first, brace := told(shapeOf(rng, f, api.MaxNest+1))
			if first < 0 {
				continue
			}
			met[brace]++
			ahead, at := tokens[:first], place(tokens, first)
			for _, x := range append([]string{""}, alphabet...) {
				s := strings.Join(append(slices.Clip(ahead), x), " ")
				want := api.ErrDeep
				switch {
				case brace == "{" || brace == "?" && x != ")":
				case brace == "[" && slices.Contains(begins, x): // whether it may stand there or not
				default:
					want = api.ErrForm
				}
				b, gotAt, got := f.call(s)
				// A token that may stand there leads on: to the end, or to the next part.
				leadsOn := want == api.ErrForm && (x == ";" || x == ")" || x == "in" || x == "end") && gotAt > at
				if !empty(b) || !leadsOn && (gotAt != at || got != want) {
					t.Fatalf("%s %q behind %q: %d %v, not %d %v", f.start, x, s[max(0, at-40):at], gotAt, got, at, want)
				}
				if leadsOn && gotAt != len(s) {
					t.Fatalf("%s %.300q: %d %v", f.start, s, gotAt, got)
				}
			}
		}
	}
	if met["{"] < 5 || met["["] < 5 || met["?"] < 5 {
		t.Fatal(met)
	}
}

// P7.1, P7.2: the last depth that may be, and the first that may not, told by hand; what does not count may be as long as it likes.
func TestDeepEdges(t *testing.T) {
	n := api.MaxNest
	times := strings.Repeat
	fine := []struct{ start, text string }{
		{"exp", times("(", n-1) + "x" + times(")", n-1)},
		{"exp", times("(", n) + times(")", n)},
		{"exp", times("if x then y else ", n-1) + "z"},
		{"exp", times("fn _ => ", n-1) + "x"},
		{"exp", times("let in ", n-1) + "x" + times(" end", n-1)},
		{"exp", times("(", n-3) + "let val x = 1 in x end" + times(")", n-3)},
		{"exp", times("(", n-2) + "let open A in x end" + times(")", n-2)},
		{"exp", "let fun f " + times("(", n-2) + "x" + times(")", n-2) + " = 1 in x end"},
		{"exp", "x" + times(" + f x", 3*n)},
		{"exp", "f" + times(" (x)", 3*n)},
		{"exp", times("A.", 3*n) + "x"},
		{"exp", "(x" + times(", x", 3*n) + ")"},
		{"exp", "case x of _ => x" + times(" | _ => x", 3*n)},
		{"pat", times("x as ", n-1) + "y"},
		{"pat", times("A (", n-1) + "x" + times(")", n-1)},
		{"pat", times("(", n) + times(")", n)},
		{"ty", times("t -> ", n-1) + "t"},
		{"ty", times("(", n-1) + "t" + times(")", n-1)},
		{"ty", "t" + times(" * t", 3*n)},
		{"ty", "t" + times(" t", 3*n)},
		{"sig", times("sig include ", n-1) + "S" + times(" end", n-1)},
		{"sig", times("sig structure A : ", n-1) + "sig end" + times(" end", n-1)},
		{"sig", times("sig include ", n-2) + "sig datatype t = A of t end" + times(" end", n-2)},
		{"sig", "S" + times(" where type t = t", 3*n)},
		{"file", times("local ", n) + times(";in;end ", n)},
		{"file", times("local in ", n) + times("end ", n)},
		{"file", "structure A = " + times("F (", n-2) + "A" + times(")", n-2)},
		{"file", times("structure A = struct ", n/2) + times("end ", n/2)},
		{"file", "structure A = A" + times(" : S :> S", 3*n)},
		{"file", times("val x = 1 ", 3*n)},
		{"file", "fun f " + times("(", n-1) + "x" + times(")", n-1) + " = 1"},
	}
	for _, x := range fine {
		b, at, err := faceOf(x.start).call(x.text)
		if at != 0 || err != api.OK || b.Kind == 0 {
			t.Fatalf("%s %.300q: %d %v", x.start, x.text, at, err)
		}
	}
	wrong := []struct {
		start, text, then string
		err               api.Errno
	}{
		{"exp", times("(", n), "x", api.ErrDeep},
		{"exp", times("(", n), "", api.ErrDeep},
		{"exp", times("(", n), "+", api.ErrDeep},
		{"exp", times("(", n), "end", api.ErrDeep},
		{"exp", times("(", n) + ")", "", api.ErrForm},
		{"exp", times("(", n-1), ",", api.ErrForm},
		{"exp", times("if ", n), "then", api.ErrDeep},
		{"exp", times("fn x => ", n-1) + "fn ", "x => x", api.ErrDeep},
		{"exp", times("fn x => ", n-1) + "fn ", "=>", api.ErrDeep},
		{"exp", times("(", n-1) + "let ", "val x = 1 in x end", api.ErrDeep},
		{"exp", times("(", n-1) + "let ", "open", api.ErrDeep},
		{"exp", times("(", n-1) + "let ", "structure A = A", api.ErrDeep},
		{"exp", times("(", n-1) + "let ", "signature", api.ErrDeep},
		{"exp", times("(", n-1) + "let ", "functor", api.ErrDeep},
		{"exp", times("(", n-2) + "let ", "structure A = A", api.ErrForm},
		{"exp", times("(", n-2) + "let ", "signature", api.ErrForm},
		{"exp", times("(", n-2) + "let local ", "structure", api.ErrDeep},
		{"exp", times("(", n-3) + "let local in ", "functor", api.ErrForm},
		{"exp", times("(", n-2) + "let local ", "+", api.ErrForm},
		{"exp", times("(", n-1) + "let ; ", "structure", api.ErrDeep},
		{"exp", times("(", n-1) + "let ", "+", api.ErrForm},
		{"exp", times("(", n-1) + "let ", "", api.ErrForm},
		{"exp", times("(", n-1) + "let in ", "end", api.ErrDeep},
		{"exp", times("(", n-2) + "let val ", "x", api.ErrDeep},
		{"exp", times("(", n-2) + "let val ", "=", api.ErrDeep},
		{"exp", times("(", n-2) + "let fun f ", "=", api.ErrForm},
		{"exp", times("(", n-2) + "let fun f (", "x", api.ErrDeep},
		{"exp", times("(", n-2) + "let fun f (", "=", api.ErrDeep},
		{"exp", times("(", n-2) + "let fun f () ", "", api.ErrForm},
		{"exp", times("(", n-2) + "let type t = ", "1", api.ErrDeep},
		{"exp", times("(", n-2) + "let datatype t = A of ", "|", api.ErrDeep},
		{"exp", "", "+" + times("(", 2*n), api.ErrForm},
		{"pat", times("x as ", n), "y", api.ErrDeep},
		{"pat", times("x as ", n), "", api.ErrDeep},
		{"pat", times("(_, ", n-1) + "(", "_", api.ErrDeep},
		{"pat", times("(_, ", n-1) + "(", ",", api.ErrDeep},
		{"pat", times("(_, ", n-1), ")", api.ErrForm},
		{"ty", times("t -> ", n), "t", api.ErrDeep},
		{"ty", times("(", n), ")", api.ErrDeep},
		{"ty", times("(t, ", n-1) + "(", ")", api.ErrDeep},
		{"sig", times("sig include ", n), "S", api.ErrDeep},
		{"sig", times("sig include ", n), "end", api.ErrDeep},
		{"sig", times("sig include ", n-1) + "sig ", "fun", api.ErrForm},
		{"sig", times("sig include ", n-1) + "sig val x : ", "t", api.ErrDeep},
		{"sig", times("sig include ", n-1) + "sig datatype t = A of ", "t", api.ErrDeep},
		{"sig", times("sig include ", n-1) + "S where type t = ", "", api.ErrDeep},
		{"file", times("local ", n), "local", api.ErrDeep},
		{"file", times("local ", n), "functor", api.ErrDeep},
		{"file", times("local in ", n), "val", api.ErrDeep},
		{"file", times("local ", n), "x", api.ErrForm},
		{"file", "structure A = " + times("F (", n-1), ")", api.ErrDeep},
		{"file", times("structure A = struct ", n/2), "structure", api.ErrDeep},
		{"file", times("structure A = struct ", n/2), "signature", api.ErrDeep},
		{"file", times("structure A = struct ", n/2), "functor", api.ErrDeep},
		{"file", times("structure A = struct ", n/2-1), "signature", api.ErrForm},
		{"file", times("structure A = struct ", n/2-1), "functor", api.ErrForm},
		{"file", times("structure A = struct ", n/2-1) + "local ", "functor", api.ErrForm},
		{"file", times("structure A = struct ", n/2-1) + "local local ", "functor", api.ErrDeep},
		{"file", times("structure A = struct ", n/2), "x", api.ErrForm},
		{"file", times("structure A = struct ", n/2-1) + "structure A = A : ", "", api.ErrDeep},
		{"file", times("local ", n-1) + "structure A : ", "S", api.ErrDeep},
	}
	for _, x := range wrong {
		refused(t, faceOf(x.start), x.text+x.then, len(x.text), x.err)
	}
}
