package spell_test

import (
	"slices"
	"strings"
	"testing"

	"oriel/api"
	"oriel/lex"
	"oriel/name"
	"oriel/spell"
)

// files is files of these texts.
func files(texts ...string) []api.File {
	var l []api.File
	for _, s := range texts {
		l = append(l, api.File{Name: "f", Text: s})
	}
	return l
}

// places is places told as their numbers, one behind the other.
func places(l ...int) []api.Place {
	var all []api.Place
	for i := 0; i+1 < len(l); i += 2 {
		all = append(all, api.Place{File: l[i], At: l[i+1]})
	}
	return all
}

// The chapter's example.
func TestExample(t *testing.T) {
	l := files("val x = y + 1")
	if got := spell.Taken(l...); !slices.Equal(got, []string{"+", "x", "y"}) {
		t.Errorf("%q", got)
	}
	for like, want := range map[string]string{"x": "z", "+": "++"} {
		if got, ok := spell.Fresh(like, l...); got != want || !ok {
			t.Errorf("%q: %q %v", like, got, ok)
		}
	}
}

// P16.1: what is taken, rising byte by byte, each once.
func TestTaken(t *testing.T) {
	for _, c := range []struct {
		texts []string
		want  string
	}{
		{nil, ""},
		{[]string{""}, ""},
		{[]string{"", "", ""}, ""},
		{[]string{"x"}, "x"},
		{[]string{"x x", "x", "(x)"}, "x"},
		{[]string{"b", "a", "c"}, "a b c"},
		{[]string{"~ | ` z a ^ \\ Z A @ ? > == < :: / - + * & % $ # !"}, "! # $ % & * + - / :: < == > ? @ A Z \\ ^ ` a z ~"},
		{[]string{"x x' x0 xX x_ xx x1 x10 x2 X x''"}, "X x x' x'' x0 x1 x10 x2 xX x_ xx"},
		{[]string{"+ ++ +- -+ +"}, "+ ++ +- -+"},
		{[]string{"structure M :> S = struct val op + = fn (a, _) => A.B.c a end"}, "+ A B M S a c"},
		{[]string{"M.x", "M.N.x"}, "M N x"},
		// Keywords, marks, type variables, ints and texts are no names; notes and bad tokens have none.
		{[]string{"val end 'a 12 \"x\" ( ) , . ; _ = => | : :> ->"}, ""},
		{[]string{"(* x (* Y *) + *) z", "(* y"}, "z"},
		{[]string{"1x _y 'Z ''w {a} \xffb c\x00 d\"e\nf\"g"}, "a b c d f"},
		{[]string{"é x é"}, "x"},
		// A sign is as long as may be; the star that begins a note is none.
		{[]string{"x+y", "x+*y", "x-(*y*)z", "(*)w*)", "( **)y"}, "** + +* - x y z"},
		{[]string{"a=>b a=>>b a:>b a->b a|b a||b a=b"}, "=>> a b ||"},
		{[]string{"valx Val val' val_ val1 val"}, "Val val' val1 val_ valx"},
	} {
		if got := spell.Taken(files(c.texts...)...); !slices.Equal(got, strings.Fields(c.want)) {
			t.Errorf("%q: %q, not %q", c.texts, got, c.want)
		}
	}
}

// P16.1: what is free is a word, a cap or a sign, and not spelled.
func TestFree(t *testing.T) {
	for _, s := range strings.Fields("x y' x_1 X X' Val val' + ++ == => = :: :> | || * ** ->> _x 1x 'a 'A ' _ . ( ) , ; \"x\" (* é M.x x.y") {
		want := false
		switch name.Kind(s) {
		case api.TkWord, api.TkCap, api.TkSign:
			want = true
		}
		for _, l := range [][]api.File{nil, {}, {{}}, files("", "val end 1"), files("xx x' Xx +++ *** === :::", "\"x + X\" (* y' x_1 ** *)")} {
			if got := spell.Free(s, l...); got != want {
				t.Errorf("%q of %q: %v", s, l, got)
			}
		}
		if spell.Free(s, files("val end", s, "'a")...) {
			t.Errorf("%q is free where it stands", s)
		}
	}
	for _, s := range append(name.Keywords(), "", " ", "x ", " x", "x y", "x\n", "++ ", "+ +", "x+", "\xff", "X\x00") {
		if spell.Free(s) || spell.Free(s, files("val y = 1")...) {
			t.Errorf("%q is free", s)
		}
	}
	for _, s := range []string{"x", "X", "++"} {
		for at := range 3 {
			l := files("a", "A", "+")
			l[at].Text += " " + s
			if spell.Free(s, l...) {
				t.Errorf("%q of %q is free", s, l)
			}
		}
	}
}

// P16.1: where a name is spelled, file by file.
func TestPlaces(t *testing.T) {
	l := files("val x = x + M.x", "", "(* x *) \"x\" 'x x' xx 1x _x", "x", "open M\nval x = y ++ z (x", "x+x(*")
	for s, want := range map[string][]api.Place{
		"x":    places(0, 4, 0, 8, 0, 14, 3, 0, 4, 11, 4, 23, 5, 0, 5, 2),
		"M":    places(0, 12, 4, 5),
		"+":    places(0, 10, 5, 1),
		"++":   places(4, 17),
		"x'":   places(2, 15),
		"xx":   places(2, 18),
		"y":    places(4, 15),
		"z":    places(4, 20),
		"X":    nil,
		"m":    nil,
		"+++":  nil,
		"val":  nil,
		"open": nil,
		"'x":   nil,
		"_x":   nil,
		"1x":   nil,
		"=":    nil,
		"(":    nil,
		"(*":   nil,
		".":    nil,
		"M.x":  nil,
		"x ":   nil,
		"":     nil,
		" ":    nil,
		"f":    nil, // the files' name
	} {
		if got := spell.Places(s, l...); !slices.Equal(got, want) {
			t.Errorf("%q: %v, not %v", s, got, want)
		}
		if got := spell.Places(s); len(got) > 0 {
			t.Errorf("%q of no files: %v", s, got)
		}
	}
}

// P16.2: of a word and a cap the first of x, y, z, x1 and so on that is not spelled, whatever the word is.
func TestFreshWordsAndCaps(t *testing.T) {
	for _, c := range []struct{ text, word, cap string }{
		{"", "x", "X"},
		{"x", "y", "X"},
		{"X", "x", "Y"},
		{"y z", "x", "X"},
		{"x y", "z", "X"},
		{"X Z", "x", "Y"},
		{"x y z X Y Z", "x1", "X1"},
		{"x y z x1 z1", "y1", "X"},
		{"X Y Z X1 Y1 Z1 x", "y", "X2"},
		{"x' x_ xx 'x 1x \"x\" (* x *) X'", "x", "X"},
		{"val x = 1 structure X = struct end", "y", "Y"},
		{"a like Like", "x", "X"},
	} {
		for _, l := range [][]api.File{files(c.text), files(c.text, "like"), files("", "val", c.text)} {
			for _, like := range []string{"x", "like", "y'", "z_1", "valx"} {
				if got, ok := spell.Fresh(like, l...); got != c.word || !ok {
					t.Errorf("%q: %q for %q: %v", l, got, like, ok)
				}
			}
			for _, like := range []string{"X", "Like", "Y'", "Z_1", "Val"} {
				if got, ok := spell.Fresh(like, l...); got != c.cap || !ok {
					t.Errorf("%q: %q for %q: %v", l, got, like, ok)
				}
			}
		}
	}
}

// P16.2: what is spelled in any of the files is not fresh.
func TestFreshOfManyFiles(t *testing.T) {
	l := files("X +++", "z", "", "x ++ Y", "y Z ++++++", "X1 z1")
	for n, want := range []struct{ word, cap, sign string }{
		{"x", "X", "++"}, {"x", "Y", "++"}, {"x", "Y", "++"}, {"x", "Y", "++"}, {"y", "Z", "++++"}, {"x1", "X1", "++++"}, {"x1", "Y1", "++++"},
	} {
		word, _ := spell.Fresh("a", l[:n]...)
		capital, _ := spell.Fresh("A", l[:n]...)
		sign, _ := spell.Fresh("+-", l[:n]...)
		if word != want.word || capital != want.cap || sign != want.sign {
			t.Errorf("%q: %q %q %q", l[:n], word, capital, sign)
		}
	}
}

// P16.2: of a sign its first byte, two times at least, and as often as it takes.
func TestFreshSigns(t *testing.T) {
	for _, c := range []struct{ like, text, want string }{
		{"+", "", "++"},
		{"+", "+", "++"},
		{"+", "x + y", "++"},
		{"+", "++", "+++"},
		{"+", "++ +++ +++++", "++++"},
		{"+", "+++ ++++", "++"},
		{"++", "", "++"},
		{"++", "++", "+++"},
		{"+-*/", "++", "+++"},
		{"+-*/", "-- ** //", "++"},
		{"-", "(* -- *) \"--\" -+ +- -", "--"},
		{"*", "(**) ( **) **", "***"},
		{"*", "(**)", "**"},
		{"==", "=", "=="},
		{"=>=", "==", "==="},
		{"=>>", "= => |", "=="},
		{"|>", "|", "||"},
		{"||", "||", "|||"},
		{":=", ": :>", "::"},
		{"::", "::", ":::"},
		{":>:", "", "::"},
		{"->>", "->", "--"},
		{"~", "~ ~~ ~~~ ~~~~", "~~~~~"},
		{"\\/", "\\", "\\\\"},
	} {
		for _, l := range [][]api.File{files(c.text), files("x", c.text, "val")} {
			if got, ok := spell.Fresh(c.like, l...); got != c.want || !ok {
				t.Errorf("%q: %q for %q: %v", l, got, c.like, ok)
			}
		}
	}
}

// P16.2, P16.3: whatever the sign begins with, each that is fresh is alike to it, and to the next one.
func TestFreshSignsOfEachByte(t *testing.T) {
	for _, b := range strings.Split("!%&$#+-/:<=>?@\\~`^|*", "") {
		for _, like := range []string{b, b + "+", b + "=", b + ">", b + b, b + "=>", b + "|:"} {
			if name.Kind(like) != api.TkSign {
				continue
			}
			text := ""
			for n := 2; n < 20; n++ {
				want := strings.Repeat(b, n)
				got, ok := spell.Fresh(like, files(text)...)
				if got != want || !ok || !name.Alike(got, like) {
					t.Errorf("%q: %q for %q: %v", text, got, like, ok)
				}
				text += " " + want
			}
		}
	}
}

// P16.2: what is no name is like none.
func TestFreshOfNoName(t *testing.T) {
	for _, like := range append(name.Keywords(), "", " ", "=", "=>", "|", ":", ":>", "->", "(", ")", ",", ".", ";", "_", "_x", "'a", "'", "1", "1x", "\"x\"", "x y", "x+", "+x", "+ ", " x", "M.x", "(*", "é", "\xff", "x\x00") {
		for _, l := range [][]api.File{nil, files(""), files("x", like)} {
			if got, ok := spell.Fresh(like, l...); got != "" || ok {
				t.Errorf("%q: %q for %q: %v", l, got, like, ok)
			}
		}
	}
}

// Taken and Places tell the same: each token that is a name is told once, where it stands; with any bytes.
func TestWhole(t *testing.T) {
	const program = "(* M (* \"nested *) **)\nstructure M :> S = struct\r\n\tval x' = fn (y, _) => y :: [1]\n  datatype 'a t = Nil | Cons_1 of 'a * 'a t; open A.B\nend val s = \"a\\\"b\\\\\" ^ \"\\n\\t\" val op -> = 007 1x _y 'A é \"no end\nval z = (x*)y) (*"
	for at := range len(program) + 1 {
		l := files(program[:at], program[at:])
		var want, got []api.Place
		for i, f := range l {
			for _, k := range lex.Names(f.Text) {
				want = append(want, api.Place{File: i, At: k.At})
			}
		}
		taken := spell.Taken(l...)
		if !slices.IsSorted(taken) || len(slices.Compact(slices.Clone(taken))) != len(taken) {
			t.Fatalf("%q: %q", l, taken)
		}
		for _, s := range taken {
			where := spell.Places(s, l...)
			for _, p := range where {
				if !strings.HasPrefix(l[p.File].Text[p.At:], s) {
					t.Fatalf("%q: %q at %v", l, s, p)
				}
			}
			if len(where) == 0 || spell.Free(s, l...) {
				t.Fatalf("%q: %q at %v", l, s, where)
			}
			got = append(got, where...)
		}
		slices.SortFunc(got, func(a, b api.Place) int {
			if a.File != b.File {
				return a.File - b.File
			}
			return a.At - b.At
		})
		if !slices.Equal(got, want) {
			t.Fatalf("%q: %v, not %v", l, got, want)
		}
	}
}

// P1: very many names, very long ones, very many files, and any bytes.
func TestMuchEnds(t *testing.T) {
	var signs, words strings.Builder
	for n := 2; n < 2000; n++ {
		signs.WriteString(strings.Repeat("+", n) + " ")
	}
	for n := range 30000 {
		words.WriteString(lettered("xyz")(n) + " ")
	}
	many := slices.Repeat(files("x"), 5000)
	for _, c := range []struct {
		like  string
		files []api.File
		taken int
		want  string
	}{
		{"+", files(signs.String()), 1998, strings.Repeat("+", 2000)},
		{"x", files(words.String()), 30000, "x10000"},
		{"X", files(words.String()), 30000, "X"},
		{"x", many, 1, "y"},
		{"+", files(strings.Repeat("+", 1<<20)), 1, "++"},
		{strings.Repeat("+", 1<<20), nil, 0, "++"},
		{strings.Repeat("x", 1<<20), files(strings.Repeat("x", 1<<20)), 1, "x"},
		{"x", files(strings.Repeat("x ", 1<<18)), 1, "y"},
		{"x", files(strings.Repeat("\xff", 1<<18)), 0, "x"},
		{"*", files(strings.Repeat("(*", 1<<16)), 0, "**"},
	} {
		if got := spell.Taken(c.files...); len(got) != c.taken || !slices.IsSorted(got) {
			t.Errorf("%.20q: %d are taken", c.files, len(got))
		}
		if got, ok := spell.Fresh(c.like, c.files...); got != c.want || !ok {
			t.Errorf("%.20q for %.20q: %v", got, c.like, ok)
		}
		if !spell.Free(c.want, c.files...) || len(spell.Places(c.want, c.files...)) > 0 {
			t.Errorf("%.20q is not free", c.want)
		}
	}
	if got := spell.Places("x", many...); len(got) != 5000 || got[4999] != (api.Place{File: 4999}) {
		t.Error(len(got))
	}
}

// Rules 3 and 6: what is handed in stays as it was, what is handed out is the caller's own, and a call hangs on its arguments alone.
func TestAnswersAreTheCallersOwn(t *testing.T) {
	l := files("val x = y + 1 val z = X.y", "x ++ Y")
	before := slices.Clone(l)
	taken, where := slices.Clone(spell.Taken(l...)), slices.Clone(spell.Places("x", l...))
	for range 20 {
		fresh, _ := spell.Fresh("a", l...)
		sign, _ := spell.Fresh("+", l...)
		if fresh != "x1" || sign != "+++" || spell.Free("x", l...) || !spell.Free(fresh, l...) {
			t.Fatal(fresh, sign)
		}
		got, at := spell.Taken(l...), spell.Places("x", l...)
		if !slices.Equal(got, taken) || !slices.Equal(at, where) || !slices.Equal(l, before) {
			t.Fatal(got, at, l)
		}
		clear(got)
		clear(at)
		spell.Taken(files("a b c")...)
	}
}
