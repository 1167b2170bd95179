package name_test

import (
	"math"
	"regexp"
	"slices"
	"strings"
	"testing"

	"oriel/api"
	"oriel/name"
)

const allKeywords = "and as case datatype else end fn fun functor if in include let local of op open sig signature struct structure then type val where"

const allMarks = "( ) , . ; _ = => | : :> ->"

const signBytes = "!%&$#+-/:<=>?@\\~`^|*"

// The kinds once more, as patterns: what the program answers is held against them.
var (
	wordPattern = regexp.MustCompile(`\A[a-z][a-zA-Z0-9_']*\z`)
	capPattern  = regexp.MustCompile(`\A[A-Z][a-zA-Z0-9_']*\z`)
	varPattern  = regexp.MustCompile(`\A'[a-z][a-zA-Z0-9_']*\z`)
	signPattern = regexp.MustCompile("\\A[-!%&$#+/:<=>?@\\\\~`^|*]+\\z")
)

func wantKind(s string) int {
	switch {
	case slices.Contains(strings.Fields(allKeywords), s):
		return api.TkKey
	case slices.Contains(strings.Fields(allMarks), s):
		return api.TkMark
	case wordPattern.MatchString(s):
		return api.TkWord
	case capPattern.MatchString(s):
		return api.TkCap
	case varPattern.MatchString(s):
		return api.TkVar
	case signPattern.MatchString(s):
		return api.TkSign
	}
	return 0
}

// wantLevel is the level of a sign, and its side, by its first byte.
func wantLevel(s string) (int, bool) {
	levels := map[byte]int{'*': 7, '/': 7, '%': 7, '+': 6, '-': 6, '^': 5, '@': 5, ':': 5, '=': 4, '<': 4, '>': 4, '!': 4, '&': 3, '|': 3}
	if wantKind(s) != api.TkSign {
		return 0, false
	}
	if n, ok := levels[s[0]]; ok {
		return n, n == 5
	}
	return 2, false
}

// shortTexts is the empty text, all of one byte and of two, and all of three of the bytes that matter.
func shortTexts() []string {
	all := []string{""}
	for a := range 256 {
		all = append(all, string([]byte{byte(a)}))
		for b := range 256 {
			all = append(all, string([]byte{byte(a), byte(b)}))
		}
	}
	few := "afAZz09_'\x00 \n\x80\xff()[]{},.;\"" + signBytes
	for _, a := range []byte(few) {
		for _, b := range []byte(few) {
			for _, c := range []byte(few) {
				all = append(all, string([]byte{a, b, c}))
			}
		}
	}
	return all
}

// fewTexts is some of each kind, and some that are near to one.
func fewTexts() []string {
	all := append(strings.Fields(allKeywords), strings.Fields(allMarks)...)
	all = append(all, "", " ", "x", "y", "x'", "a_B'9", "valx", "va", "Val", "X", "Y'", "M_1", "'a", "'b9", "''a", "'", "'A", "'1", "1", "1x", "_x", "x y", "x ", "X.y", "é", "\xff", "x\x00", "\x00")
	for _, b := range signBytes {
		all = append(all, string(b), string(b)+"+", string(b)+string(b), string(b)+"~!")
	}
	return all
}

// P4.1

func TestKindOfEdges(t *testing.T) {
	for _, x := range []struct {
		s    string
		want int
	}{
		{"x", api.TkWord}, {"x'", api.TkWord}, {"z_Z9'", api.TkWord}, {"a", api.TkWord}, {"valx", api.TkWord}, {"va", api.TkWord}, {"val'", api.TkWord},
		{"X", api.TkCap}, {"A", api.TkCap}, {"Z", api.TkCap}, {"X'", api.TkCap}, {"M_1a", api.TkCap}, {"Val", api.TkCap}, {"AND", api.TkCap},
		{"'a", api.TkVar}, {"'z", api.TkVar}, {"'a'", api.TkVar}, {"'val", api.TkVar}, {"'aB_1", api.TkVar},
		{"val", api.TkKey}, {"and", api.TkKey}, {"where", api.TkKey}, {"fn", api.TkKey},
		{"==", api.TkSign}, {"::", api.TkSign}, {"||", api.TkSign}, {"=>>", api.TkSign}, {"-->", api.TkSign}, {"->>", api.TkSign}, {"<-", api.TkSign}, {"*", api.TkSign}, {"-", api.TkSign}, {">", api.TkSign}, {"::>", api.TkSign}, {signBytes, api.TkSign},
		{"=>", api.TkMark}, {"=", api.TkMark}, {"|", api.TkMark}, {":", api.TkMark}, {":>", api.TkMark}, {"->", api.TkMark}, {"(", api.TkMark}, {")", api.TkMark}, {",", api.TkMark}, {".", api.TkMark}, {";", api.TkMark}, {"_", api.TkMark},
		{"", 0}, {" ", 0}, {"'", 0}, {"'A", 0}, {"'1", 0}, {"''a", 0}, {"'_", 0}, {"__", 0}, {"_x", 0}, {"_'", 0}, {"1", 0}, {"1x", 0}, {"0", 0},
		{"x.y", 0}, {"x ", 0}, {" x", 0}, {"x+", 0}, {"+x", 0}, {"X-", 0}, {"'a+", 0}, {"()", 0}, {"(*", 0}, {"*)", 0}, {"..", 0}, {",,", 0}, {";;", 0}, {"= ", 0}, {"=>x", 0},
		{"\"", 0}, {"\"\"", 0}, {"[", 0}, {"{", 0}, {"x\n", 0}, {"val\n", 0}, {"é", 0}, {"xé", 0}, {"Äx", 0}, {"+\xff", 0}, {"x\x00", 0}, {"\x00", 0}, {"\xff", 0},
	} {
		if k := name.Kind(x.s); k != x.want {
			t.Errorf("%q: %d, not %d", x.s, k, x.want)
		}
	}
}

func TestKindOfAllShortTexts(t *testing.T) {
	for _, s := range append(shortTexts(), fewTexts()...) {
		if k := name.Kind(s); k != wantKind(s) {
			t.Fatalf("%q: %d, not %d", s, k, wantKind(s))
		}
	}
}

// All bytes are held, at each place of a name, not the first ones alone.
func TestKindOfLongTexts(t *testing.T) {
	for _, begin := range []string{"a", "Z", "'b", "+"} {
		fill := strings.Repeat(begin[len(begin)-1:], 300)
		kind := wantKind(begin)
		for b := range 256 {
			for _, s := range []string{
				begin + fill + string([]byte{byte(b)}),
				begin + string([]byte{byte(b)}) + fill,
				begin + fill + string([]byte{byte(b)}) + fill,
			} {
				if k := name.Kind(s); k != wantKind(s) || k != 0 && k != kind {
					t.Fatalf("%q with %d: %d", begin, b, k)
				}
			}
		}
	}
}

func TestKeywordAndMark(t *testing.T) {
	for _, s := range append(shortTexts(), fewTexts()...) {
		if name.Keyword(s) != slices.Contains(strings.Fields(allKeywords), s) {
			t.Fatalf("%q: keyword %v", s, name.Keyword(s))
		}
		if name.Mark(s) != slices.Contains(strings.Fields(allMarks), s) {
			t.Fatalf("%q: mark %v", s, name.Mark(s))
		}
	}
}

func TestKeywordOfNearTexts(t *testing.T) {
	for _, k := range strings.Fields(allKeywords) {
		for _, s := range []string{k[:len(k)-1] + "_", k + "'", k + " ", " " + k, strings.ToUpper(k), strings.ToUpper(k[:1]) + k[1:], "'" + k, k + "\x00"} {
			if name.Keyword(s) {
				t.Errorf("%q", s)
			}
		}
	}
}

func TestKeywordsAreAllAndRise(t *testing.T) {
	l := name.Keywords()
	if !slices.Equal(l, strings.Fields(allKeywords)) {
		t.Error(l)
	}
	if !slices.IsSorted(l) || len(slices.Compact(slices.Clone(l))) != len(l) {
		t.Error("not rising", l)
	}
}

func TestKeywordsAreTheCallersOwn(t *testing.T) {
	l := name.Keywords()
	for i := range l {
		l[i] = "x"
	}
	_ = append(l, "x")
	if !slices.Equal(name.Keywords(), strings.Fields(allKeywords)) || !name.Keyword("and") || name.Keyword("x") || name.Kind("x") != api.TkWord {
		t.Error("an answer that was written on is to be seen in later ones")
	}
}

// P4.2

func TestLevelOfEdges(t *testing.T) {
	for _, x := range []struct {
		signs string
		level int
		right bool
	}{
		{"* / % ** *+ /: %= *|", 7, false},
		{"+ - ++ -+ --> ->> -:", 6, false},
		{"^ @ :: ^^ @@ :+ ^* :>> ::: :=", 5, true},
		{"< > ! == =: =>> <= >= != <> =+ ==>", 4, false},
		{"& || && |> |: &+ |=", 3, false},
		{"$ # ? \\ ~ ` $* #+ ?: \\\\ ~- `^", 2, false},
	} {
		for _, s := range strings.Fields(x.signs) {
			if n, right := name.Level(s); n != x.level || right != x.right {
				t.Errorf("%q: %d %v", s, n, right)
			}
		}
	}
}

func TestLevelOfAllShortTexts(t *testing.T) {
	for _, s := range append(shortTexts(), fewTexts()...) {
		n, right := name.Level(s)
		if wantN, wantRight := wantLevel(s); n != wantN || right != wantRight {
			t.Fatalf("%q: %d %v", s, n, right)
		}
	}
}

func TestLevelOfNoSign(t *testing.T) {
	for _, s := range append(strings.Fields(allMarks), "", "x", "X", "'a", "val", "+x", "+ ", " +", "*)", "+\xff", "*\x00") {
		if n, right := name.Level(s); n != 0 || right {
			t.Errorf("%q: %d %v", s, n, right)
		}
	}
}

// P4.3

var spaces = []int{api.SpValue, api.SpCon, api.SpType, api.SpStr, api.SpSig, api.SpFun}

var noSpaces = []int{0, -1, 7, 8, 100, math.MinInt, math.MaxInt, 1<<32 + 1}

func TestMayByKinds(t *testing.T) {
	for _, s := range append(shortTexts(), fewTexts()...) {
		kind := wantKind(s)
		for _, space := range spaces {
			want := kind == api.TkCap
			switch space {
			case api.SpValue:
				want = kind == api.TkWord || kind == api.TkSign
			case api.SpType:
				want = kind == api.TkWord
			}
			if name.May(space, s) != want {
				t.Fatalf("%d %q: %v", space, s, !want)
			}
		}
	}
}

func TestMayOfEdges(t *testing.T) {
	for _, s := range []string{"x", "+", "::"} {
		if !name.May(api.SpValue, s) || name.May(api.SpCon, s) || name.May(api.SpStr, s) || name.May(api.SpType, s) != (s == "x") {
			t.Errorf("%q", s)
		}
	}
	for _, space := range spaces {
		for _, s := range []string{"", "val", "and", "=", "|", ":", "->", "_", "(", "'a", "1", "x.y", "x ", "X.Y", "\xff"} {
			if name.May(space, s) {
				t.Errorf("%d %q", space, s)
			}
		}
	}
}

func TestMayOfNoSpace(t *testing.T) {
	for _, space := range noSpaces {
		for _, s := range fewTexts() {
			if name.May(space, s) {
				t.Errorf("%d %q", space, s)
			}
		}
	}
}

func TestAlikeOfEdges(t *testing.T) {
	for _, x := range []struct {
		a, b string
		want bool
	}{
		{"x", "y'", true}, {"X", "Other", true}, {"+", "-", true}, {"*", "%%", true}, {"::", "@", true}, {"^", "::", true}, {"==", "<", true}, {"&&", "||", true}, {"~", "?", true}, {"#", "`=", true},
		{"x", "X", false}, {"x", "+", false}, {"X", "+", false}, {"+", "*", false}, {"+", "::", false}, {"<", "&", false}, {"&", "?", false}, {"==", "=", false}, {"||", "|", false}, {"::", ":", false},
		{"", "", false}, {"=", "=", false}, {"|", ":", false}, {"(", "(", false}, {"'a", "'a", false}, {"'a", "'b", false}, {"val", "val", false}, {"val", "fun", false}, {"x", "val", false}, {"1", "1", false}, {"\xff", "\xff", false}, {"x y", "x y", false},
	} {
		if name.Alike(x.a, x.b) != x.want || name.Alike(x.b, x.a) != x.want {
			t.Errorf("%q %q: not %v", x.a, x.b, x.want)
		}
	}
}

func TestAlikeOfEachTwo(t *testing.T) {
	l := fewTexts()
	for _, a := range l {
		for _, b := range l {
			levelA, rightA := wantLevel(a)
			levelB, rightB := wantLevel(b)
			want := false
			switch kind := wantKind(a); kind {
			case api.TkWord, api.TkCap, api.TkSign:
				want = kind == wantKind(b) && levelA == levelB && rightA == rightB
			}
			if name.Alike(a, b) != want {
				t.Fatalf("%q %q: %v", a, b, !want)
			}
		}
	}
}

func TestSpaceOfEach(t *testing.T) {
	for space, want := range map[int]string{
		api.SpValue: "value", api.SpCon: "constructor", api.SpType: "type", api.SpStr: "structure", api.SpSig: "signature", api.SpFun: "functor",
	} {
		if s := name.Space(space); s != want {
			t.Errorf("%d: %q", space, s)
		}
	}
	for _, space := range noSpaces {
		if s := name.Space(space); s != "" {
			t.Errorf("%d: %q", space, s)
		}
	}
}

// P4.4

func small(space int) bool { return space == api.SpValue || space == api.SpType }

func TestFreshOneByOne(t *testing.T) {
	for _, space := range spaces {
		want := strings.Fields("x y z x1 y1 z1 x2 y2 z2 x3 y3 z3 x4 y4 z4 x5 y5 z5 x6 y6 z6 x7 y7 z7 x8 y8 z8 x9 y9 z9 x10 y10 z10 x11 y11 z11")
		var taken []string
		for _, s := range want {
			if !small(space) {
				s = strings.ToUpper(s)
			}
			if got, ok := name.Fresh(space, taken); got != s || !ok {
				t.Fatalf("%d: %q %v, not %q", space, got, ok, s)
			}
			taken = append(taken, s)
		}
	}
}

func TestFreshOfEdges(t *testing.T) {
	for _, x := range []struct {
		taken, small, great string
	}{
		{"", "x", "X"},
		{"x y", "z", "X"},
		{"X Y", "x", "Z"},
		{"x x x x", "y", "X"},
		{"z y x", "x1", "X"},
		{"y z x1", "x", "X"},
		{"x y z y1", "x1", "X"},
		{"x y z x1 z1 x2", "y1", "X"},
		{"X Y Z X1 Y1 x", "y", "Z1"},
		{"x0 x01 X0 x00 'x x' a val + =", "x", "X"},
		{"x y z x0 x01 x1' X Y Z X0 X01", "x1", "X1"},
	} {
		taken := strings.Fields(x.taken)
		for _, space := range spaces {
			want := x.great
			if small(space) {
				want = x.small
			}
			if got, ok := name.Fresh(space, taken); got != want || !ok {
				t.Errorf("%d %q: %q %v", space, x.taken, got, ok)
			}
		}
	}
}

func TestFreshOfTextsThatAreNoNames(t *testing.T) {
	if got, ok := name.Fresh(api.SpValue, []string{"", " x", "x ", "\xff", "x\x00", "1"}); got != "x" || !ok {
		t.Error(got, ok)
	}
}

func TestFreshOfManyTaken(t *testing.T) {
	all := manyFresh("XYZ", 20000)
	slices.Reverse(all)
	if got, ok := name.Fresh(api.SpStr, all); got != "Z6666" || !ok {
		t.Error(got, ok)
	}
	gap := all[500]
	if got, ok := name.Fresh(api.SpStr, slices.Delete(all, 500, 501)); got != gap || !ok {
		t.Error(got, ok, gap)
	}
}

// manyFresh is the first n fresh names of these letters.
func manyFresh(letters string, n int) []string {
	all := strings.Split(letters, "")
	for round := 1; len(all) < n; round++ {
		for _, b := range letters {
			all = append(all, string(b)+decimal(round))
		}
	}
	return all[:n]
}

func decimal(n int) string {
	if n < 10 {
		return string(rune('0' + n))
	}
	return decimal(n/10) + decimal(n%10)
}

func TestFreshOfNoSpace(t *testing.T) {
	for _, space := range noSpaces {
		for _, taken := range [][]string{nil, {}, {"x", "X", ""}} {
			if got, ok := name.Fresh(space, taken); got != "" || ok {
				t.Errorf("%d: %q %v", space, got, ok)
			}
		}
	}
}

func TestFreshLeavesWhatIsTaken(t *testing.T) {
	for _, space := range append(spaces, noSpaces...) {
		taken := []string{"z", "x", "", "y", "x", "X", "x2"}
		before := slices.Clone(taken)
		name.Fresh(space, taken[:5])
		if !slices.Equal(taken, before) {
			t.Fatal(space, taken)
		}
	}
}

func TestFreshHangsOnItsArgumentsAlone(t *testing.T) {
	taken := manyFresh("xyz", 50)
	want, _ := name.Fresh(api.SpType, taken)
	for range 20 {
		name.Fresh(api.SpType, append(taken, want))
		if got, _ := name.Fresh(api.SpType, taken); got != want {
			t.Fatal(got, want)
		}
		taken = append(taken[1:], taken[0]) // the order of what is taken says nothing
	}
}

// P4.5

func TestOfOneKindAtMost(t *testing.T) {
	for _, s := range append(shortTexts(), fewTexts()...) {
		kind := name.Kind(s)
		level, _ := name.Level(s)
		if name.Keyword(s) != (kind == api.TkKey) || name.Mark(s) != (kind == api.TkMark) || level > 0 != (kind == api.TkSign) {
			t.Fatalf("%q", s)
		}
	}
}

func TestAlikeToItself(t *testing.T) {
	for _, s := range append(shortTexts(), fewTexts()...) {
		may := false
		for _, space := range spaces {
			may = may || name.May(space, s)
		}
		if name.Alike(s, s) != may {
			t.Fatalf("%q: alike to itself is %v", s, !may)
		}
	}
}

func TestAlikeGoesBothWaysAndOn(t *testing.T) {
	l := fewTexts()
	for _, a := range l {
		for _, b := range l {
			if name.Alike(a, b) != name.Alike(b, a) {
				t.Fatalf("%q %q", a, b)
			}
			if !name.Alike(a, b) {
				continue
			}
			for _, c := range l {
				if name.Alike(b, c) != name.Alike(a, c) {
					t.Fatalf("%q %q %q", a, b, c)
				}
			}
		}
	}
}

func TestFreshMayBeThereAndIsNotTaken(t *testing.T) {
	for _, space := range spaces {
		for n := range 40 {
			taken := append(manyFresh("xyz", n), manyFresh("XYZ", n)...)
			s, ok := name.Fresh(space, taken)
			if !ok || !name.May(space, s) || slices.Contains(taken, s) {
				t.Fatal(space, n, s, ok)
			}
		}
	}
}

// P1

func TestAnyBytesEnd(t *testing.T) {
	long := strings.Repeat("x", 1<<20)
	for _, s := range []string{"", long, long + "\xff", "'" + long, strings.Repeat("+", 1<<20), strings.Repeat("'", 1<<20), strings.Repeat("\xff", 1<<10)} {
		for _, space := range append(noSpaces, spaces...) {
			name.May(space, s)
			name.Fresh(space, []string{s, s})
		}
		name.Kind(s)
		name.Keyword(s)
		name.Mark(s)
		name.Level(s)
		name.Alike(s, s)
		name.Alike(s, "")
	}
	if name.Kind(long) != api.TkWord || name.Kind(long+"\xff") != 0 || name.Kind(strings.Repeat("+", 1<<20)) != api.TkSign {
		t.Error("kinds of long texts")
	}
}
