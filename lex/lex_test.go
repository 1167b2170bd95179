package lex_test

import (
	"math"
	"regexp"
	"slices"
	"strings"
	"testing"

	"oriel/api"
	"oriel/lex"
	"oriel/name"
)

const signBytes = "!%&$#+-/:<=>?@\\~`^|*"

// longest is a pattern that takes as much as it can.
func longest(pattern string) *regexp.Regexp {
	p := regexp.MustCompile(pattern)
	p.Longest()
	return p
}

// The kinds once more, as patterns, with which the program's answers are held against the chapter's words: the longest that begins somewhere is the token there, and of those that are as long the first one. A text and a note, and what is bad without them, are told by hand.
var patterns = []struct {
	kind int
	p    *regexp.Regexp
}{
	{api.TkBlank, longest(`\A[ \t\n\r]+`)},
	{api.TkInt, longest(`\A[0-9]+`)},
	{api.TkKey, longest(`\A(and|as|case|datatype|else|end|fn|fun|functor|if|in|include|let|local|of|op|open|sig|signature|struct|structure|then|type|val|where)`)},
	{api.TkWord, longest(`\A[a-z][a-zA-Z0-9_']*`)},
	{api.TkCap, longest(`\A[A-Z][a-zA-Z0-9_']*`)},
	{api.TkVar, longest(`\A'[a-z][a-zA-Z0-9_']*`)},
	{api.TkMark, longest(`\A(=>|=|\||:>|:|->|[(),.;_])`)},
	{api.TkSign, longest("\\A[-!%&$#+/:<=>?@\\\\~`^|*]+")},
	{api.TkBad, longest(`\A([0-9]+|_|')[a-zA-Z0-9_']*`)},
}

var (
	textPattern = longest(`\A"([^"\\\n]|\\["\\nt])*"`)
	linePattern = longest(`\A[^\n]*`)
)

// noteLong is how long the note is with which s begins; -1, if it has no end.
func noteLong(s string) int {
	at := len("(*")
	for at < len(s) {
		switch {
		case strings.HasPrefix(s[at:], "*)"):
			return at + 2
		case strings.HasPrefix(s[at:], "(*"):
			n := noteLong(s[at:])
			if n < 0 {
				return -1
			}
			at += n
		default:
			at++
		}
	}
	return -1
}

// wantToken is the kind of the token with which s begins, and how long it is.
func wantToken(s string) (int, int) {
	switch {
	case s == "":
		return api.TkEnd, 0
	case s[0] == '"':
		if l := textPattern.FindString(s); l != "" {
			return api.TkText, len(l)
		}
		return api.TkBad, len(linePattern.FindString(s))
	case strings.HasPrefix(s, "(*"):
		if n := noteLong(s); n >= 0 {
			return api.TkNote, n
		}
		return api.TkBad, len(s)
	}
	kind, long := api.TkBad, 0
	for _, x := range patterns {
		if n := len(x.p.FindString(s)); n > long {
			kind, long = x.kind, n
		}
	}
	return kind, max(long, 1)
}

func wantTokens(s string) []api.Token {
	var all []api.Token
	for at := 0; ; {
		kind, long := wantToken(s[at:])
		all = append(all, api.Token{Kind: kind, At: at, End: at + long})
		if kind == api.TkEnd {
			return all
		}
		at += long
	}
}

// textsOf is all texts of these parts, up to n of them.
func textsOf(n int, parts ...string) []string {
	all, last := []string{""}, []string{""}
	for range n {
		var more []string
		for _, s := range last {
			for _, p := range parts {
				more = append(more, s+p)
			}
		}
		all, last = append(all, more...), more
	}
	return all
}

// program is a text with all kinds of tokens.
const program = "(* M (* \"nested *) **)\nstructure M :> S = struct\r\n\tval x' = fn (y, _) => y :: [1]\n  datatype 'a t = Nil | Cons_1 of 'a * 'a t; open A.B\nend val s = \"a\\\"b\\\\\" ^ \"\\n\\t\" val op -> = 007 1x _y 'A é \"no end\nval z = (x*)y) (*"

// samples is texts for all that is said of any text: all short ones of all bytes, longer ones of those that matter, and some others.
func samples() []string {
	var bytes []string
	for b := range 256 {
		bytes = append(bytes, string([]byte{byte(b)}))
	}
	all := textsOf(2, bytes...)
	all = append(all, textsOf(4, strings.Split("a,Z,1,_,',\",\\,\n,(,*,),=,.,{", ",")...)...)
	all = append(all, textsOf(8, "(", "*", ")")...)
	all = append(all, textsOf(7, "\"", "\\", "n", "\n")...)
	all = append(all, textsOf(4, "(*", "*)", "*", "\"", "\n", "x", " ")...)
	all = append(all, textsOf(3, "=", ">", ":", "-", "|", "<", "val", "x", "1")...)
	for at := range program {
		all = append(all, program[:at], program[at:])
	}
	return all
}

// told is tokens as texts: each one's kind as a letter, and its bytes behind it.
func told(s string, l []api.Token) []string {
	const letters = "EBN!I\"wCvskm"
	var all []string
	for _, k := range l {
		all = append(all, letters[k.Kind:k.Kind+1]+s[k.At:k.End])
	}
	return all
}

// P5.1

func TestScan(t *testing.T) {
	for _, c := range []struct {
		s    string
		want []string // all but the end
	}{
		{"", nil},
		{"a.B=>'c", []string{"wa", "m.", "CB", "m=>", "v'c"}},
		{"val x = 1", []string{"kval", "B ", "wx", "B ", "m=", "B ", "I1"}},
		// blanks
		{" \t\n\r ", []string{"B \t\n\r "}},
		{"a \n b", []string{"wa", "B \n ", "wb"}},
		{"\v\f", []string{"!\v", "!\f"}},
		{"\u00a0", []string{"!\xc2", "!\xa0"}},
		// notes
		{"(**)", []string{"N(**)"}},
		{"(***)", []string{"N(***)"}},
		{"(* a\nb *)c", []string{"N(* a\nb *)", "wc"}},
		{"(* (* *) *)*)", []string{"N(* (* *) *)", "s*", "m)"}},
		{"(*(**)*)(**)", []string{"N(*(**)*)", "N(**)"}},
		{"(*)*)", []string{"N(*)*)"}},
		{"(*(*)*)*)", []string{"N(*(*)*)*)"}},
		{"(*((**))*)", []string{"N(*((**))*)"}},
		{"(*\"*)\"", []string{"N(*\"*)", "!\""}},
		{"(*\"(*\"*)*)", []string{"N(*\"(*\"*)*)"}},
		{"(*\xff\x00*)", []string{"N(*\xff\x00*)"}},
		{"*)", []string{"s*", "m)"}},
		{"( *)", []string{"m(", "B ", "s*", "m)"}},
		{"((**))", []string{"m(", "N(**)", "m)"}},
		{"+(**)+", []string{"s+", "N(**)", "s+"}},
		// notes without an end
		{"(*", []string{"!(*"}},
		{"(*)", []string{"!(*)"}},
		{"(*)x", []string{"!(*)x"}},
		{"(*(**)", []string{"!(*(**)"}},
		{"a (* b\n c", []string{"wa", "B ", "!(* b\n c"}},
		{"(* *\n)", []string{"!(* *\n)"}},
		{"(**)(*", []string{"N(**)", "!(*"}},
		// texts
		{`""`, []string{`"""`}},
		{`"a b"c`, []string{`""a b"`, "wc"}},
		{`"a""b"`, []string{`""a"`, `""b"`}},
		{`"\""`, []string{`""\""`}},
		{`"\\"`, []string{`""\\"`}},
		{`"\n\t"`, []string{`""\n\t"`}},
		{`"\\\""`, []string{`""\\\""`}},
		{`"(*"`, []string{`""(*"`}},
		{"\"\t\r\x00\xffé\"", []string{"\"\"\t\r\x00\xffé\""}},
		{`"a"1`, []string{`""a"`, "I1"}},
		// texts without an end, and with a \ that stands otherwise
		{`"`, []string{`!"`}},
		{`"a`, []string{`!"a`}},
		{"\"a\nb\"", []string{`!"a`, "B\n", "wb", `!"`}},
		{"\"\r\n\"", []string{"!\"\r", "B\n", "!\""}},
		{`"\"`, []string{`!"\"`}},
		{`"\`, []string{`!"\`}},
		{`"\\\"`, []string{`!"\\\"`}},
		{"\"\\\n\"", []string{`!"\`, "B\n", `!"`}},
		{`"\a" x`, []string{`!"\a" x`}},
		{"\"\\r\" x\ny", []string{`!"\r" x`, "B\n", "wy"}},
		{`"\N" "`, []string{`!"\N" "`}},
		{"\"a (*\n*)", []string{`!"a (*`, "B\n", "s*", "m)"}},
		{`"a" "b`, []string{`""a"`, "B ", `!"b`}},
		// ints
		{"0", []string{"I0"}},
		{"007 12", []string{"I007", "B ", "I12"}},
		{"1+2", []string{"I1", "s+", "I2"}},
		{"1.2", []string{"I1", "m.", "I2"}},
		{"~1", []string{"s~", "I1"}},
		{"1x", []string{"!1x"}},
		{"12'", []string{"!12'"}},
		{"1_", []string{"!1_"}},
		{"1X_2' 3", []string{"!1X_2'", "B ", "I3"}},
		{"1é", []string{"I1", "!\xc3", "!\xa9"}},
		// names
		{"x y' a_B'9", []string{"wx", "B ", "wy'", "B ", "wa_B'9"}},
		{"M.N'.x_", []string{"CM", "m.", "CN'", "m.", "wx_"}},
		{"x'a", []string{"wx'a"}},
		{"val valx Val val' val1", []string{"kval", "B ", "wvalx", "B ", "CVal", "B ", "wval'", "B ", "wval1"}},
		{"fn fun functor", []string{"kfn", "B ", "kfun", "B ", "kfunctor"}},
		{"'a 'b' 'val", []string{"v'a", "B ", "v'b'", "B ", "v'val"}},
		{"'a'b", []string{"v'a'b"}},
		{"'", []string{"!'"}},
		{"'A", []string{"!'A"}},
		{"'1x", []string{"!'1x"}},
		{"''a", []string{"!''a"}},
		{"'_ x", []string{"!'_", "B ", "wx"}},
		{"xé", []string{"wx", "!\xc3", "!\xa9"}},
		// signs and marks
		{"=", []string{"m="}},
		{"==", []string{"s=="}},
		{"=>", []string{"m=>"}},
		{"=>>", []string{"s=>>"}},
		{"| || : :> ::> -> -->", []string{"m|", "B ", "s||", "B ", "m:", "B ", "m:>", "B ", "s::>", "B ", "m->", "B ", "s-->"}},
		{signBytes, []string{"s" + signBytes}},
		{"x+y", []string{"wx", "s+", "wy"}},
		{"x:M", []string{"wx", "m:", "CM"}},
		{"()(),,..;;", []string{"m(", "m)", "m(", "m)", "m,", "m,", "m.", "m.", "m;", "m;"}},
		{"(+)", []string{"m(", "s+", "m)"}},
		{"=(", []string{"m=", "m("}},
		{"_", []string{"m_"}},
		{"_ _", []string{"m_", "B ", "m_"}},
		{"_+_", []string{"m_", "s+", "m_"}},
		{"_=", []string{"m_", "m="}},
		{"_.", []string{"m_", "m."}},
		{"__", []string{"!__"}},
		{"_x", []string{"!_x"}},
		{"_1'a B", []string{"!_1'a", "B ", "CB"}},
		{"x_", []string{"wx_"}},
		// other bytes
		{"[x]", []string{"![", "wx", "!]"}},
		{"{{", []string{"!{", "!{"}},
		{"\x00\x01\x7f", []string{"!\x00", "!\x01", "!\x7f"}},
		{"\xff\xfe", []string{"!\xff", "!\xfe"}},
	} {
		if got := told(c.s, lex.Scan(c.s)); !slices.Equal(got, append(c.want, "E")) {
			t.Errorf("%q: %q", c.s, got)
		}
	}
}

func TestScanOfSamples(t *testing.T) {
	for _, s := range samples() {
		if got, want := lex.Scan(s), wantTokens(s); !slices.Equal(got, want) {
			t.Fatalf("%q: %q, not %q", s, told(s, got), told(s, want))
		}
	}
}

// P5.2

func TestFirst(t *testing.T) {
	for _, c := range []struct {
		s    string
		at   int
		want api.Errno
	}{
		{"", 0, api.OK},
		{"val x = 1", 9, api.OK},
		{"(* { *) \"{\"", 11, api.OK},
		{"1x", 0, api.ErrByte},
		{"x 1x", 2, api.ErrByte},
		{"x _y", 2, api.ErrByte},
		{"x'y 'A", 4, api.ErrByte},
		{"x {", 2, api.ErrByte},
		{"é", 0, api.ErrByte},
		{"\x00", 0, api.ErrByte},
		{"(*(**)", 0, api.ErrOpen},
		{"x (* y", 2, api.ErrOpen},
		{"(*)", 0, api.ErrOpen},
		{"\n\"x", 1, api.ErrOpen},
		{"x \"\\q\"", 2, api.ErrOpen},
		{"\" {", 0, api.ErrOpen},
		{"{ \"", 0, api.ErrByte},
		{"\"a\n{", 0, api.ErrOpen},
		{"{ (*", 0, api.ErrByte},
		{"(* {", 0, api.ErrOpen},
	} {
		if at, err := lex.First(c.s); at != c.at || err != c.want {
			t.Errorf("%q: %d %d", c.s, at, err)
		}
	}
}

// wantBad is what is wrong with the bytes of a bad token.
func wantBad(bytes string) api.Errno {
	if strings.HasPrefix(bytes, "\"") || strings.HasPrefix(bytes, "(") {
		return api.ErrOpen
	}
	return api.ErrByte
}

func TestFirstOfSamples(t *testing.T) {
	for _, s := range samples() {
		at, want := len(s), api.OK
		for _, k := range wantTokens(s) {
			if k.Kind == api.TkBad {
				at, want = k.At, wantBad(s[k.At:k.End])
				break
			}
		}
		if got, err := lex.First(s); got != at || err != want {
			t.Fatalf("%q: %d %d, not %d %d", s, got, err, at, want)
		}
	}
}

// numbers are places that no text has, and some that texts have.
var numbers = []int{math.MinInt, math.MinInt + 1, -2, -1, 0, 1, 2, 3, 4, 5, 6, 1 << 31, math.MaxInt - 1, math.MaxInt}

// kinds are all kinds of tokens, and some that are none.
var kinds = []int{math.MinInt, -1, 0, 1, 2, 3, 4, 5, 6, 7, 8, 9, 10, 11, 12, 1 << 20, math.MaxInt}

// anyTokens are tokens of all these kinds, between all these places.
func anyTokens() []api.Token {
	var all []api.Token
	for _, kind := range kinds {
		for _, at := range numbers {
			for _, end := range numbers {
				all = append(all, api.Token{Kind: kind, At: at, End: end})
			}
		}
	}
	return all
}

// bytesOf is a token's bytes, and whether they are in s.
func bytesOf(k api.Token, s string) (string, bool) {
	if 0 <= k.At && k.At <= k.End && k.End <= len(s) {
		return s[k.At:k.End], true
	}
	return "", false
}

func TestBad(t *testing.T) {
	for _, s := range []string{"", "\"", "x\"(\xff_", "(*)*{\n"} {
		for _, k := range anyTokens() {
			want := api.OK
			if b, ok := bytesOf(k, s); ok && b != "" && k.Kind == api.TkBad {
				want = wantBad(b)
			}
			if err := lex.Bad(k, s); err != want {
				t.Fatalf("%q %v: %d, not %d", s, k, err, want)
			}
		}
	}
}

func TestBadOfTokens(t *testing.T) {
	for _, c := range []struct {
		s    string
		k    api.Token
		want api.Errno
	}{
		{"x \"y", api.Token{Kind: api.TkBad, At: 2, End: 4}, api.ErrOpen},
		{"x (*y", api.Token{Kind: api.TkBad, At: 2, End: 5}, api.ErrOpen},
		{"x 1y", api.Token{Kind: api.TkBad, At: 2, End: 4}, api.ErrByte},
		{"x 'Y", api.Token{Kind: api.TkBad, At: 2, End: 4}, api.ErrByte},
		{"x \"y\"", api.Token{Kind: api.TkText, At: 2, End: 5}, api.OK},
		{"(**)", api.Token{Kind: api.TkNote, At: 0, End: 4}, api.OK},
		{"(", api.Token{Kind: api.TkMark, At: 0, End: 1}, api.OK},
		{"(*", api.Token{Kind: api.TkBad, At: 0, End: 3}, api.OK},
		{"(*", api.Token{Kind: api.TkBad, At: 0, End: 0}, api.OK},
		{"(*", api.Token{Kind: api.TkBad, At: 2, End: 0}, api.OK},
		{"(*", api.Token{Kind: api.TkBad, At: -1, End: 1}, api.OK},
		{"(*", api.Token{Kind: api.TkEnd, At: 2, End: 2}, api.OK},
	} {
		if err := lex.Bad(c.k, c.s); err != c.want {
			t.Errorf("%q %v: %d", c.s, c.k, err)
		}
	}
}

// P5.3

func TestWords(t *testing.T) {
	s := " val(*n*)x\t= M.y +\n'a 1 \"t\" 1x (* "
	want := []string{"kval", "wx", "m=", "CM", "m.", "wy", "s+", "v'a", "I1", "\"\"t\"", "!1x", "!(* ", "E"}
	if got := told(s, lex.Words(s)); !slices.Equal(got, want) {
		t.Errorf("%q", got)
	}
}

func TestNames(t *testing.T) {
	s := " val(*n*)x\t= M.y +\n'a 1 \"t\" _ -> :: 1x (* z"
	want := []string{"wx", "CM", "wy", "s+", "s::"}
	if got := told(s, lex.Names(s)); !slices.Equal(got, want) {
		t.Errorf("%q", got)
	}
}

func TestWordsAndNamesOfFew(t *testing.T) {
	for _, s := range []string{"", " ", "(**)", "\t(* x *)\n"} {
		end := []api.Token{{Kind: api.TkEnd, At: len(s), End: len(s)}}
		if got := lex.Words(s); !slices.Equal(got, end) {
			t.Errorf("%q: %v", s, got)
		}
		if got := lex.Names(s); len(got) != 0 {
			t.Errorf("%q: %v", s, got)
		}
	}
}

func TestWordsAndNamesOfSamples(t *testing.T) {
	for _, s := range samples() {
		var words, names []api.Token
		for _, k := range wantTokens(s) {
			if k.Kind != api.TkBlank && k.Kind != api.TkNote {
				words = append(words, k)
			}
			if slices.Contains([]int{api.TkWord, api.TkCap, api.TkSign}, k.Kind) {
				names = append(names, k)
			}
		}
		if !slices.Equal(lex.Words(s), words) || !slices.Equal(lex.Names(s), names) {
			t.Fatalf("%q", s)
		}
	}
}

// P5.4

func TestTexts(t *testing.T) {
	s := "x = \"a\" \xff"
	l := []api.Token{{Kind: 5, At: 4, End: 7}, {Kind: 6, At: 0, End: 1}, {Kind: 99, At: 0, End: 9}, {At: 8, End: 9}, {At: 9, End: 9}, {At: 9, End: 10}, {At: -1, End: 1}, {At: 2, End: 1}, {At: 0, End: 1}, {At: 10, End: 10}}
	want := []string{"\"a\"", "x", s, "\xff", "", "", "", "", "x", ""}
	if got := lex.Texts(s, l); !slices.Equal(got, want) {
		t.Errorf("%q", got)
	}
	if len(lex.Texts(s, nil)) != 0 || len(lex.Texts("", []api.Token{})) != 0 {
		t.Error("texts of no tokens")
	}
}

func TestTextsOfAnyTokens(t *testing.T) {
	l := anyTokens()
	before := slices.Clone(l)
	for _, s := range []string{"", "a", "val x", "\xff\x00(*"} {
		got := lex.Texts(s, l)
		if len(got) != len(l) {
			t.Fatalf("%q: %d texts", s, len(got))
		}
		for i, k := range l {
			if want, _ := bytesOf(k, s); got[i] != want {
				t.Fatalf("%q %v: %q, not %q", s, k, got[i], want)
			}
		}
	}
	if !slices.Equal(l, before) {
		t.Error("the tokens that were handed in are changed")
	}
}

// P5.5

func TestWhole(t *testing.T) {
	for _, s := range append(samples(), program, strings.Repeat(program, 50)) {
		l := lex.Scan(s)
		if strings.Join(lex.Texts(s, l), "") != s {
			t.Fatalf("%q: not whole", s)
		}
		at := 0
		for i, k := range l {
			last := i == len(l)-1
			if k.At != at || k.End == k.At != last || k.Kind == api.TkEnd != last {
				t.Fatalf("%q: %v", s, l)
			}
			at = k.End
		}
		if at != len(s) {
			t.Fatalf("%q: ends at %d", s, at)
		}
	}
}

// P5.6

// both is the tokens of s, and behind them those of t, as they stand behind s.
func both(s, t string) []api.Token {
	l := lex.Scan(s)
	l = l[:len(l)-1]
	for _, k := range lex.Scan(t) {
		l = append(l, api.Token{Kind: k.Kind, At: k.At + len(s), End: k.End + len(s)})
	}
	return l
}

func TestApart(t *testing.T) {
	parts := []string{"", " ", "\n", "\n\n", "\r", "(**)", "(* x *)", "(*", "(*)", "(", ")", "*", "*)", "\"\"", "\"a\"", "\"", "\"a", "\"\\", "\\", "0", "12", "1x", "x", "val", "va", "l", "x'", "X", "'a", "'", "'A", "_", "__", "_x", "=", "=>", ">", ":", "->", "-", "+", "|", ",", ".", ";", "{", "\xff"}
	l := parts
	for _, a := range parts {
		for _, b := range parts {
			l = append(l, a+b)
		}
	}
	for _, a := range l {
		for _, b := range parts {
			// Which tokens may stand beside one another hangs on these two alone.
			one, two := last(a), first(b)
			apart := one == "" || two == "" || slices.Equal(lex.Scan(one+two), both(one, two))
			if slices.Equal(lex.Scan(a+b), both(a, b)) != apart {
				t.Fatalf("%q %q: apart is %v", a, b, apart)
			}
		}
	}
}

func first(s string) string {
	k := lex.Scan(s)[0]
	return s[k.At:k.End]
}

func last(s string) string {
	l := lex.Scan(s)
	if len(l) == 1 {
		return ""
	}
	k := l[len(l)-2]
	return s[k.At:k.End]
}

func TestApartByBlanks(t *testing.T) {
	for _, a := range []string{"x", "val", "'a", "1", "+", "=", "(", "_", "\"a\"", "(**)", "{", "1x"} {
		for _, b := range []string{"x", "val", "'a", "1", "+", "=", "*", ")", "_", "\"a", "(*", "{", "1x"} {
			want := both(a+" ", b)
			if got := lex.Scan(a + " " + b); !slices.Equal(got, want) || len(got) != 4 {
				t.Errorf("%q %q: %v", a, b, got)
			}
		}
	}
}

// P5.7

func TestAgain(t *testing.T) {
	for _, s := range append(samples(), program) {
		l := lex.Scan(s)
		for i, p := range lex.Texts(s, l[:len(l)-1]) {
			want := []api.Token{{Kind: l[i].Kind, End: len(p)}, {Kind: api.TkEnd, At: len(p), End: len(p)}}
			if got := lex.Scan(p); !slices.Equal(got, want) {
				t.Fatalf("%q of %q: %v", p, s, got)
			}
		}
	}
}

// Layer 4 says of which kind a name, a sign and a mark is: of a text that is one of them it is the one token.
func TestNamesAreTokensOfTheirKinds(t *testing.T) {
	for _, s := range append(samples(), name.Keywords()...) {
		kind := name.Kind(s)
		if kind == 0 {
			continue
		}
		if got := lex.Scan(s); len(got) != 2 || got[0] != (api.Token{Kind: kind, End: len(s)}) {
			t.Fatalf("%q: %v", s, got)
		}
	}
}

// P1, P2

func TestAnyBytesEnd(t *testing.T) {
	const n = 1 << 18
	for _, c := range []struct {
		s     string
		many  int
		first int
		err   api.Errno
	}{
		{strings.Repeat("x", n), 2, n, api.OK},
		{strings.Repeat(" ", n), 2, n, api.OK},
		{strings.Repeat("+", n), 2, n, api.OK},
		{strings.Repeat("1", n), 2, n, api.OK},
		{strings.Repeat("1", n) + "x", 2, 0, api.ErrByte},
		{strings.Repeat("'", n), 2, 0, api.ErrByte},
		{strings.Repeat("_", n), 2, 0, api.ErrByte},
		{strings.Repeat("(", n), n + 1, n, api.OK},
		{strings.Repeat("\xff", n), n + 1, 0, api.ErrByte},
		{strings.Repeat("\"", n), n/2 + 1, n, api.OK},
		{strings.Repeat("\"\n", n/2), n + 1, 0, api.ErrOpen},
		{"\"" + strings.Repeat("\\", n), 2, 0, api.ErrOpen},
		{"\"" + strings.Repeat("\\\"", n) + "\"", 2, 2*n + 2, api.OK},
		{strings.Repeat("(*", 1<<16), 2, 0, api.ErrOpen},
		{strings.Repeat("(*", 1<<16) + strings.Repeat("*)", 1<<16-1), 2, 0, api.ErrOpen},
		{strings.Repeat("(*", 1<<16) + strings.Repeat("*)", 1<<16), 2, 1 << 18, api.OK},
		{"(*" + strings.Repeat("(**)", n), 2, 0, api.ErrOpen},
		{strings.Repeat("(*)", 1<<16), 2, 0, api.ErrOpen},
		{strings.Repeat("*)", n/2), n + 1, n, api.OK},
	} {
		l := lex.Scan(c.s)
		at, err := lex.First(c.s)
		if len(l) != c.many || at != c.first || err != c.err {
			t.Errorf("%.8q of %d bytes: %d tokens, %d %d", c.s, len(c.s), len(l), at, err)
		}
		lex.Words(c.s)
		lex.Names(c.s)
		lex.Texts(c.s, l)
	}
}

func TestAnswersAreTheCallersOwn(t *testing.T) {
	for _, call := range []func(s string) []api.Token{lex.Scan, lex.Words, lex.Names} {
		want := slices.Clone(call(program))
		got := call(program)
		for i := range got {
			got[i] = api.Token{Kind: -1, At: -1, End: -1}
		}
		if !slices.Equal(call(program), want) {
			t.Error("a later answer is changed")
		}
	}
	l := lex.Scan(program)
	want := slices.Clone(lex.Texts(program, l))
	clear(lex.Texts(program, l))
	if !slices.Equal(lex.Texts(program, l), want) {
		t.Error("later texts are changed")
	}
}
