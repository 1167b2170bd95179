package text_test

import (
	"math"
	"slices"
	"strings"
	"testing"

	"oriel/api"
	"oriel/text"
)

// numbers are places, lines and columns that no text has, and some that texts have.
var numbers = []int{math.MinInt, math.MinInt + 1, -2, -1, 0, 1, 2, 3, 5, 1 << 31, math.MaxInt - 1, math.MaxInt}

// samples are texts for all that is asked of any text: all short ones of the bytes that matter, and some others.
func samples() []string {
	l := []string{""}
	for from := 0; len(l[from]) < 5; from++ {
		for _, b := range []string{"a", " ", "\t", "\n"} {
			l = append(l, l[from]+b)
		}
	}
	return append(l,
		"val x = 1\n  val y = 2\n\tval z = 3\n",
		"\r\n \r\n", "\v a\n\f b\n\u00a0c", "\x00\n\xff\xfe\n", "ä\n ö\n\u2028ü",
		strings.Repeat("\n", 300), strings.Repeat(" ", 300)+"\n"+strings.Repeat("ab", 300))
}

// spans are all spans between two of the numbers.
func spans(l []int) []api.Span {
	var all []api.Span
	for _, at := range l {
		for _, end := range l {
			all = append(all, api.Span{At: at, End: end})
		}
	}
	return all
}

func TestRight(t *testing.T) {
	for _, c := range []struct {
		s       string
		at, end int
		want    bool
	}{
		{"abc", 0, 3, true},
		{"abc", 1, 2, true},
		{"abc", 0, 0, true},
		{"abc", 3, 3, true},
		{"", 0, 0, true},
		{"abc", -1, 2, false},
		{"abc", -1, -1, false},
		{"abc", -2, -1, false},
		{"abc", 2, 1, false},
		{"abc", 1, 4, false},
		{"abc", 4, 4, false},
		{"abc", 4, 3, false},
		{"", 0, 1, false},
		{"", 1, 1, false},
		{"", 1, 0, false},
		{"abc", math.MinInt, math.MaxInt, false},
		{"abc", math.MaxInt, math.MinInt, false},
		{"abc", 0, math.MaxInt, false},
		{"abc", math.MinInt, 0, false},
		{"abc", 0, math.MinInt, false},
		{"abc", math.MaxInt, math.MaxInt, false},
		{"abc", math.MinInt, math.MinInt, false},
	} {
		if got := text.Right(c.s, api.Span{At: c.at, End: c.end}); got != c.want {
			t.Errorf("Right(%q, %d to %d) = %v", c.s, c.at, c.end, got)
		}
	}
}

func TestPart(t *testing.T) {
	for _, c := range []struct {
		s       string
		at, end int
		want    string
	}{
		{"abc", 1, 3, "bc"},
		{"abc", 0, 3, "abc"},
		{"abc", 0, 1, "a"},
		{"abc", 1, 1, ""},
		{"abc", 3, 3, ""},
		{"", 0, 0, ""},
		{"a\nb\n", 1, 4, "\nb\n"},
		{"\xff\x00ä", 0, 3, "\xff\x00\xc3"},
	} {
		if got, err := text.Part(c.s, api.Span{At: c.at, End: c.end}); got != c.want || err != api.OK {
			t.Errorf("Part(%q, %d to %d) = %q, %v", c.s, c.at, c.end, got, err)
		}
	}
}

func TestPartIsRightOrRefused(t *testing.T) {
	for _, s := range []string{"", "a", "abc", "a\nb\n"} {
		for _, p := range spans(numbers) {
			got, err := text.Part(s, p)
			switch {
			case text.Right(s, p) && (err != api.OK || len(got) != p.End-p.At):
				t.Errorf("Part(%q, %v) = %q, %v, but it is right", s, p, got, err)
			case !text.Right(s, p) && (err != api.ErrRange || got != ""):
				t.Errorf("Part(%q, %v) = %q, %v, but it is not right", s, p, got, err)
			}
		}
	}
}

func TestPartsTogether(t *testing.T) {
	for _, s := range []string{"", "a", "abc", "a\nb\n", "\xff\xfeä\n"} {
		for at := 0; at <= len(s); at++ {
			for end := at; end <= len(s); end++ {
				for mid := at; mid <= end; mid++ {
					one, e := text.Part(s, api.Span{At: at, End: mid})
					two, f := text.Part(s, api.Span{At: mid, End: end})
					both, g := text.Part(s, api.Span{At: at, End: end})
					if one+two != both || e != api.OK || f != api.OK || g != api.OK {
						t.Errorf("Part of %q: %q, %q, and of both %q", s, one, two, both)
					}
				}
			}
		}
	}
}

func TestLines(t *testing.T) {
	for _, c := range []struct {
		s    string
		want int
	}{
		{"", 1}, {"a", 1}, {"a\nbc", 2}, {"a\n", 2}, {"\n", 2}, {"\n\n", 3}, {"a\r\nb", 2}, {"a\rb", 1}, {"\u2028\u0085\v\f", 1},
	} {
		if got := text.Lines(c.s); got != c.want {
			t.Errorf("Lines(%q) = %d", c.s, got)
		}
	}
	for _, s := range samples() {
		if got := text.Lines(s); got != strings.Count(s, "\n")+1 {
			t.Errorf("Lines(%q) = %d", s, got)
		}
	}
}

func TestLine(t *testing.T) {
	for _, c := range []struct {
		s         string
		at        int
		line, col int
	}{
		{"a\nbc", 3, 2, 2},
		{"a\nbc", 0, 1, 1},
		{"a\nbc", 1, 1, 2}, // the byte 10
		{"a\nbc", 2, 2, 1},
		{"a\nbc", 4, 2, 3}, // the text's end
		{"a\n", 2, 2, 1},   // the text's end behind a byte 10
		{"", 0, 1, 1},
		{"\n", 0, 1, 1},
		{"\n\n", 1, 2, 1},
		{"\n\n", 2, 3, 1},
		{"ä\n", 2, 1, 3}, // a column is of bytes
	} {
		if line, col, err := text.Line(c.s, c.at); line != c.line || col != c.col || err != api.OK {
			t.Errorf("Line(%q, %d) = %d, %d, %v", c.s, c.at, line, col, err)
		}
	}
}

// TestLineStepByStep goes through each text a byte at a time.
func TestLineStepByStep(t *testing.T) {
	for _, s := range samples() {
		line, col := 1, 1
		for at := 0; at <= len(s); at++ {
			if n, m, err := text.Line(s, at); n != line || m != col || err != api.OK {
				t.Fatalf("Line(%q, %d) = %d, %d, %v, not %d, %d", s, at, n, m, err, line, col)
			}
			col++
			if at < len(s) && s[at] == '\n' {
				line, col = line+1, 1
			}
		}
	}
}

func TestLineRefused(t *testing.T) {
	for _, s := range samples() {
		for _, at := range []int{math.MinInt, -2, -1, len(s) + 1, len(s) + 2, math.MaxInt} {
			if line, col, err := text.Line(s, at); line != 0 || col != 0 || err != api.ErrRange {
				t.Errorf("Line(%q, %d) = %d, %d, %v", s, at, line, col, err)
			}
		}
	}
}

func TestPlace(t *testing.T) {
	for _, c := range []struct {
		s         string
		line, col int
		want      int
		err       api.Errno
	}{
		{"a\nbc", 2, 2, 3, api.OK},
		{"a\nbc", 1, 1, 0, api.OK},
		{"a\nbc", 1, 2, 1, api.OK},
		{"a\nbc", 1, 3, 0, api.ErrRange}, // behind the byte 10
		{"a\nbc", 2, 3, 4, api.OK},
		{"a\nbc", 2, 4, 0, api.ErrRange},
		{"a\nbc", 3, 1, 0, api.ErrRange},
		{"a\nbc", 0, 1, 0, api.ErrRange},
		{"a\nbc", 1, 0, 0, api.ErrRange},
		{"a\nbc", -1, 1, 0, api.ErrRange},
		{"a\nbc", 2, -1, 0, api.ErrRange},
		{"a\n", 2, 1, 2, api.OK},
		{"a\n", 2, 2, 0, api.ErrRange},
		{"a\n", 3, 1, 0, api.ErrRange},
		{"", 1, 1, 0, api.OK},
		{"", 1, 2, 0, api.ErrRange},
		{"", 2, 1, 0, api.ErrRange},
		{"", 0, 0, 0, api.ErrRange},
		{"\n", 1, 1, 0, api.OK},
		{"\n", 2, 1, 1, api.OK},
	} {
		if at, err := text.Place(c.s, c.line, c.col); at != c.want || err != c.err {
			t.Errorf("Place(%q, %d, %d) = %d, %v", c.s, c.line, c.col, at, err)
		}
	}
}

// TestPlaceOfEachLine holds Place against the lines that strings.Split tells.
func TestPlaceOfEachLine(t *testing.T) {
	for _, s := range samples() {
		rows := strings.Split(s, "\n")
		begin := 0
		for n, row := range rows {
			for _, col := range append(slices.Clone(numbers), len(row), len(row)+1, len(row)+2) {
				want, fault := begin+col-1, api.OK
				if col < 1 || col > len(row)+1 {
					want, fault = 0, api.ErrRange
				}
				if at, err := text.Place(s, n+1, col); at != want || err != fault {
					t.Fatalf("Place(%q, %d, %d) = %d, %v, not %d", s, n+1, col, at, err, want)
				}
			}
			begin += len(row) + 1
		}
	}
}

func TestPlaceOfNoLine(t *testing.T) {
	for _, s := range samples() {
		n := strings.Count(s, "\n") + 1
		for _, line := range []int{math.MinInt, math.MinInt + 1, -1, 0, n + 1, n + 2, math.MaxInt} {
			for _, col := range numbers {
				if at, err := text.Place(s, line, col); at != 0 || err != api.ErrRange {
					t.Fatalf("Place(%q, %d, %d) = %d, %v", s, line, col, at, err)
				}
			}
		}
	}
}

func TestPlaceAndLineLeadBack(t *testing.T) {
	for _, s := range samples() {
		for at := 0; at <= len(s); at++ {
			line, col, e := text.Line(s, at)
			back, f := text.Place(s, line, col)
			if e != api.OK || f != api.OK || back != at {
				t.Fatalf("Place of Line of %d in %q = %d, %v, %v", at, s, back, e, f)
			}
		}
		n := 0
		for line := 1; line <= text.Lines(s); line++ {
			for col := 1; ; col++ {
				at, e := text.Place(s, line, col)
				if e != api.OK {
					break
				}
				n++
				l, c, f := text.Line(s, at)
				if f != api.OK || l != line || c != col {
					t.Fatalf("Line of Place of %d, %d in %q = %d, %d, %v", line, col, s, l, c, f)
				}
			}
		}
		if n != len(s)+1 {
			t.Fatalf("%q has %d places by its lines", s, n)
		}
	}
}

func TestHolds(t *testing.T) {
	for _, c := range []struct {
		p, q api.Span
		want bool
	}{
		{api.Span{At: 1, End: 4}, api.Span{At: 2, End: 3}, true},
		{api.Span{At: 1, End: 4}, api.Span{At: 1, End: 4}, true},
		{api.Span{At: 1, End: 4}, api.Span{At: 0, End: 4}, false},
		{api.Span{At: 1, End: 4}, api.Span{At: 1, End: 5}, false},
		{api.Span{At: 2, End: 3}, api.Span{At: 1, End: 4}, false},
		{api.Span{At: 1, End: 4}, api.Span{At: 4, End: 4}, true},
		{api.Span{At: 1, End: 4}, api.Span{At: 1, End: 1}, true},
		{api.Span{At: 1, End: 4}, api.Span{At: 5, End: 5}, false},
		{api.Span{At: 1, End: 4}, api.Span{At: 0, End: 0}, false},
		{api.Span{At: 2, End: 2}, api.Span{At: 2, End: 2}, true},
		{api.Span{At: 1, End: 4}, api.Span{At: 9, End: 0}, true}, // as they are, right or not
		{api.Span{At: 4, End: 1}, api.Span{At: 2, End: 3}, false},
		{api.Span{At: 4, End: 1}, api.Span{At: 5, End: 0}, true},
		{api.Span{At: -3, End: -1}, api.Span{At: -2, End: -2}, true},
		{api.Span{At: math.MinInt, End: math.MaxInt}, api.Span{At: math.MinInt, End: math.MaxInt}, true},
		{api.Span{At: math.MinInt, End: math.MaxInt}, api.Span{At: math.MaxInt, End: math.MinInt}, true},
		{api.Span{At: math.MaxInt, End: math.MinInt}, api.Span{At: math.MinInt, End: math.MaxInt}, false},
		{api.Span{At: math.MinInt + 1, End: 0}, api.Span{At: math.MinInt, End: 0}, false},
		{api.Span{At: 0, End: math.MaxInt - 1}, api.Span{At: 0, End: math.MaxInt}, false},
	} {
		if got := text.Holds(c.p, c.q); got != c.want {
			t.Errorf("Holds(%v, %v) = %v", c.p, c.q, got)
		}
	}
}

func TestMeets(t *testing.T) {
	for _, c := range []struct {
		p, q api.Span
		want bool
	}{
		{api.Span{At: 1, End: 4}, api.Span{At: 3, End: 6}, true},
		{api.Span{At: 1, End: 4}, api.Span{At: 4, End: 6}, false}, // one behind the other
		{api.Span{At: 1, End: 4}, api.Span{At: 2, End: 3}, true},
		{api.Span{At: 1, End: 4}, api.Span{At: 1, End: 4}, true},
		{api.Span{At: 1, End: 4}, api.Span{At: 2, End: 2}, false}, // an empty one has no byte
		{api.Span{At: 2, End: 2}, api.Span{At: 2, End: 2}, false},
		{api.Span{At: 4, End: 1}, api.Span{At: 2, End: 3}, false}, // nor has one that ends ahead of its begin
		{api.Span{At: 4, End: 1}, api.Span{At: 4, End: 1}, false},
		{api.Span{At: 4, End: 1}, api.Span{At: 0, End: 9}, false},
		{api.Span{At: math.MinInt, End: math.MaxInt}, api.Span{At: 7, End: 8}, true},
		{api.Span{At: math.MinInt, End: math.MaxInt}, api.Span{At: math.MinInt, End: math.MaxInt}, true},
		{api.Span{At: math.MaxInt, End: math.MinInt}, api.Span{At: math.MinInt, End: math.MaxInt}, false},
		{api.Span{At: math.MaxInt - 1, End: math.MaxInt}, api.Span{At: 0, End: math.MaxInt}, true},
		{api.Span{At: math.MaxInt, End: math.MaxInt}, api.Span{At: 0, End: math.MaxInt}, false},
	} {
		if got := text.Meets(c.p, c.q); got != c.want {
			t.Errorf("Meets(%v, %v) = %v", c.p, c.q, got)
		}
	}
}

// TestMeetsByteByByte asks of each byte whether it lies in both.
func TestMeetsByteByByte(t *testing.T) {
	lies := func(b int, p api.Span) bool { return p.At <= b && b < p.End }
	all := spans([]int{0, 1, 2, 3, 4})
	for _, p := range all {
		for _, q := range all {
			want := false
			for b := range 5 {
				want = want || lies(b, p) && lies(b, q)
			}
			if got := text.Meets(p, q); got != want {
				t.Errorf("Meets(%v, %v) = %v", p, q, got)
			}
		}
	}
}

func TestCover(t *testing.T) {
	for _, c := range []struct {
		l    []api.Span
		want api.Span
		ok   bool
	}{
		{nil, api.Span{}, false},
		{[]api.Span{}, api.Span{}, false},
		{[]api.Span{{At: 2, End: 5}}, api.Span{At: 2, End: 5}, true},
		{[]api.Span{{At: 0, End: 0}}, api.Span{}, true},
		{[]api.Span{{At: 5, End: 2}}, api.Span{At: 5, End: 2}, true},
		{[]api.Span{{At: 2, End: 5}, {At: 7, End: 9}}, api.Span{At: 2, End: 9}, true},
		{[]api.Span{{At: 7, End: 9}, {At: 2, End: 5}}, api.Span{At: 2, End: 9}, true},
		{[]api.Span{{At: 3, End: 4}, {At: 1, End: 9}, {At: 2, End: 5}}, api.Span{At: 1, End: 9}, true},
		{[]api.Span{{At: 8, End: 8}, {At: 3, End: 3}}, api.Span{At: 3, End: 8}, true},
		{[]api.Span{{At: 9, End: 1}, {At: 5, End: 4}}, api.Span{At: 5, End: 4}, true}, // as they are
		{[]api.Span{{At: -4, End: -2}, {At: 6, End: -9}}, api.Span{At: -4, End: -2}, true},
		{[]api.Span{{At: 0, End: math.MinInt}, {At: math.MaxInt, End: math.MaxInt}, {At: math.MinInt, End: 0}}, api.Span{At: math.MinInt, End: math.MaxInt}, true},
	} {
		given := slices.Clone(c.l)
		if got, ok := text.Cover(c.l...); got != c.want || ok != c.ok {
			t.Errorf("Cover(%v) = %v, %v", c.l, got, ok)
		}
		if !slices.Equal(given, c.l) {
			t.Errorf("Cover has made %v of %v", c.l, given)
		}
	}
}

func TestIndent(t *testing.T) {
	for _, c := range []struct {
		s    string
		at   int
		want string
	}{
		{"a\n  b", 4, "  "},
		{"a\n  b", 2, "  "}, // within the blanks, too
		{"a\n  b", 3, "  "},
		{"a\n  b", 5, "  "},
		{"a\n  b", 0, ""},
		{"a\n  b", 1, ""}, // the byte 10 is of the line ahead
		{" \t a\n", 3, " \t "},
		{" \t a\n", 4, " \t "},
		{" \t a\n", 5, ""},
		{"  \n\t\n", 2, "  "},
		{"  \n\t\n", 3, "\t"},
		{"  \n\t\n", 4, "\t"},
		{"  \n\t\n", 5, ""},
		{" \t", 2, " \t"},
		{"", 0, ""},
		{"a  b", 4, ""},
		{"\r\n \r b", 5, " "},
		{"\v a", 2, ""},
		{"\u00a0 a", 3, ""},
	} {
		if got, err := text.Indent(c.s, c.at); got != c.want || err != api.OK {
			t.Errorf("Indent(%q, %d) = %q, %v", c.s, c.at, got, err)
		}
	}
}

// TestIndentOfEachLine holds Indent against the lines that strings.Split tells.
func TestIndentOfEachLine(t *testing.T) {
	for _, s := range samples() {
		at := 0
		for _, row := range strings.Split(s, "\n") {
			want := row[:len(row)-len(strings.TrimLeft(row, " \t"))]
			for range len(row) + 1 {
				if got, err := text.Indent(s, at); got != want || err != api.OK {
					t.Fatalf("Indent(%q, %d) = %q, %v, not %q", s, at, got, err, want)
				}
				at++
			}
		}
	}
}

func TestIndentRefused(t *testing.T) {
	for _, s := range samples() {
		for _, at := range []int{math.MinInt, -2, -1, len(s) + 1, len(s) + 2, math.MaxInt} {
			if got, err := text.Indent(s, at); got != "" || err != api.ErrRange {
				t.Errorf("Indent(%q, %d) = %q, %v", s, at, got, err)
			}
		}
	}
}

// TestRefusedChangesNothing asks the same ahead of calls that are refused and behind them.
func TestRefusedChangesNothing(t *testing.T) {
	type answer struct {
		part, indent             string
		lines, line, col, at     int
		partErr, lineErr, placed api.Errno
		indented                 api.Errno
	}
	ask := func(s string, at, end, line, col int) answer {
		var a answer
		a.part, a.partErr = text.Part(s, api.Span{At: at, End: end})
		a.lines = text.Lines(s)
		a.line, a.col, a.lineErr = text.Line(s, at)
		a.at, a.placed = text.Place(s, line, col)
		a.indent, a.indented = text.Indent(s, at)
		return a
	}
	s := "a\n  b\n"
	want := answer{part: " b", indent: "  ", lines: 3, line: 2, col: 2, at: 4}
	for _, n := range numbers {
		for _, m := range numbers {
			ask(s, n, m, n, m)
			ask("", m, n, m, n)
			if got := ask(s, 3, 5, 2, 3); got != want {
				t.Fatalf("behind %d, %d: %v, not %v", n, m, got, want)
			}
		}
	}
}
