package edit_test

import (
	"math"
	"slices"
	"strings"
	"testing"
	"unsafe"

	"oriel/api"
	"oriel/edit"
)

// letters is a text of n bytes, no two alike, none of which stands in the Text of an edit of these tests.
func letters(n int) string { return "abcdefgh"[:n] }

// singles is each edit whose places are from lo to hi.
func singles(lo, hi int) []api.Edit {
	var all []api.Edit
	for at := lo; at <= hi; at++ {
		for end := lo; end <= hi; end++ {
			for _, s := range []string{"", "X", "YZ"} {
				all = append(all, api.Edit{At: at, End: end, Text: s})
			}
		}
	}
	return all
}

// anyLists is each list of up to two edits, right or not, whose places are at or about those of a text of n bytes.
func anyLists(n int) [][]api.Edit {
	all := [][]api.Edit{nil}
	one := singles(-1, n+1)
	for _, e := range one {
		all = append(all, []api.Edit{e})
		for _, f := range one {
			all = append(all, []api.Edit{e, f})
		}
	}
	return all
}

// rightLists is each list of edits that is right for a text of n bytes.
func rightLists(n int) [][]api.Edit {
	all := [][]api.Edit{nil}
	for i := 0; i < len(all); i++ { // all grows: each list is made longer in each way
		from := 0
		if k := len(all[i]); k > 0 {
			from = all[i][k-1].End + 1
		}
		for _, e := range singles(from, n) {
			if e.At <= e.End {
				all = append(all, append(slices.Clone(all[i]), e))
			}
		}
	}
	return all
}

// wrong is what Check has to say, place by place.
func wrong(n int, l []api.Edit) api.Errno {
	places := map[int]int{}
	for p := 0; p <= n; p++ {
		places[p] = p
	}
	if len(places) == 0 {
		return api.ErrRange
	}
	for _, e := range l {
		_, begins := places[e.At]
		_, ends := places[e.End]
		if !begins || !ends || e.At > e.End {
			return api.ErrRange
		}
	}
	for i := range l {
		for k := i + 1; k < len(l); k++ {
			if between := l[k].At - l[i].End; between < 1 {
				return api.ErrOverlap
			}
		}
	}
	return api.OK
}

// turned is what l makes of s, from the last edit on: those ahead of it stay where they are.
func turned(s string, l []api.Edit) string {
	for i := len(l) - 1; i >= 0; i-- {
		s = s[:l[i].At] + l[i].Text + s[l[i].End:]
	}
	return s
}

// untouched fails, if a call has changed the list that it was given.
func untouched(t *testing.T, call string, given, l []api.Edit) {
	t.Helper()
	if !slices.Equal(given, l) {
		t.Fatalf("%s has made %v of %v", call, l, given)
	}
}

var wrongOnes = []struct {
	name string
	n    int
	l    []api.Edit
	want api.Errno
}{
	{"n below 0", -1, nil, api.ErrRange},
	{"the least n", math.MinInt, nil, api.ErrRange},
	{"n below 0, and an edit there", -1, []api.Edit{{At: -1, End: -1}}, api.ErrRange},
	{"n below 0, and edits that overlap", -1, []api.Edit{{At: 2, End: 3}, {At: 2, End: 3}}, api.ErrRange},
	{"At below 0", 4, []api.Edit{{At: -1, End: 2}}, api.ErrRange},
	{"End below At", 4, []api.Edit{{At: 3, End: 2}}, api.ErrRange},
	{"End above n", 4, []api.Edit{{At: 3, End: 5}}, api.ErrRange},
	{"both above n", 4, []api.Edit{{At: 5, End: 5}}, api.ErrRange},
	{"the empty text has no byte", 0, []api.Edit{{At: 0, End: 1}}, api.ErrRange},
	{"the least At", 4, []api.Edit{{At: math.MinInt, End: 2}}, api.ErrRange},
	{"the least End", 4, []api.Edit{{At: 0, End: math.MinInt}}, api.ErrRange},
	{"the greatest At", 4, []api.Edit{{At: math.MaxInt, End: 2}}, api.ErrRange},
	{"the greatest End", 4, []api.Edit{{At: 0, End: math.MaxInt}}, api.ErrRange},
	{"the greatest At, the least End", 4, []api.Edit{{At: math.MaxInt, End: math.MinInt}}, api.ErrRange},
	{"alike, both taking none", 4, []api.Edit{{At: 2, End: 2, Text: "x"}, {At: 2, End: 2, Text: "y"}}, api.ErrOverlap},
	{"alike", 4, []api.Edit{{At: 1, End: 2}, {At: 1, End: 2}}, api.ErrOverlap},
	{"no byte between", 4, []api.Edit{{At: 1, End: 2}, {At: 2, End: 3}}, api.ErrOverlap},
	{"no byte between, the second taking none", 4, []api.Edit{{At: 1, End: 2}, {At: 2, End: 2}}, api.ErrOverlap},
	{"no byte between, the first taking none", 4, []api.Edit{{At: 1, End: 1}, {At: 1, End: 2}}, api.ErrOverlap},
	{"one within the other", 4, []api.Edit{{At: 0, End: 4}, {At: 1, End: 2}}, api.ErrOverlap},
	{"not in order", 4, []api.Edit{{At: 3, End: 4}, {At: 0, End: 1}}, api.ErrOverlap},
	{"the last two", 8, []api.Edit{{At: 0, End: 1}, {At: 3, End: 4}, {At: 4, End: 5}}, api.ErrOverlap},
	{"an overlap ahead of a place that is not there", 4, []api.Edit{{At: 1, End: 2}, {At: 2, End: 3}, {At: 4, End: 5}}, api.ErrRange},
	{"a place that is not there ahead of an overlap", 4, []api.Edit{{At: -1, End: 2}, {At: 2, End: 3}, {At: 2, End: 3}}, api.ErrRange},
	{"not in order, and not there", 4, []api.Edit{{At: 3, End: 4}, {At: 0, End: -1}}, api.ErrRange},
}

var rightOnes = []struct {
	name string
	n    int
	l    []api.Edit
}{
	{"none, of the empty text", 0, nil},
	{"none", 4, []api.Edit{}},
	{"taking none, of the empty text", 0, []api.Edit{{At: 0, End: 0, Text: "x"}}},
	{"doing nothing, of the empty text", 0, []api.Edit{{}}},
	{"at the begin", 4, []api.Edit{{At: 0, End: 0, Text: "x"}}},
	{"at the end", 4, []api.Edit{{At: 4, End: 4, Text: "x"}}},
	{"all of it", 4, []api.Edit{{At: 0, End: 4}}},
	{"one byte between", 4, []api.Edit{{At: 1, End: 2}, {At: 3, End: 4}}},
	{"one byte between, both taking none", 4, []api.Edit{{At: 1, End: 1}, {At: 2, End: 2}}},
	{"the greatest n", math.MaxInt, []api.Edit{{At: 0, End: 1}, {At: 3, End: math.MaxInt - 1}, {At: math.MaxInt, End: math.MaxInt}}},
}

func TestCheck(t *testing.T) {
	for _, c := range wrongOnes {
		given := slices.Clone(c.l)
		if got := edit.Check(c.n, c.l...); got != c.want {
			t.Errorf("%s: Check(%d, %v) = %v", c.name, c.n, c.l, got)
		}
		untouched(t, "Check", given, c.l)
	}
	for _, c := range rightOnes {
		if got := edit.Check(c.n, c.l...); got != api.OK {
			t.Errorf("%s: Check(%d, %v) = %v", c.name, c.n, c.l, got)
		}
	}
}

func TestCheckOfAllLists(t *testing.T) {
	for n := -1; n <= 3; n++ {
		for _, l := range anyLists(max(n, 0)) {
			if got, want := edit.Check(n, l...), wrong(n, l); got != want {
				t.Fatalf("Check(%d, %v) = %v, not %v", n, l, got, want)
			}
		}
	}
	for n := range 6 {
		for _, l := range rightLists(n) {
			if got := edit.Check(n, l...); got != api.OK {
				t.Fatalf("Check(%d, %v) = %v", n, l, got)
			}
		}
	}
}

func TestSorted(t *testing.T) {
	for _, c := range []struct{ l, want []api.Edit }{
		{nil, nil},
		{[]api.Edit{}, nil},
		{[]api.Edit{{At: 3, End: 4, Text: "x"}}, []api.Edit{{At: 3, End: 4, Text: "x"}}},
		{[]api.Edit{{At: 3, End: 4}, {At: 1, End: 2}}, []api.Edit{{At: 1, End: 2}, {At: 3, End: 4}}},
		{[]api.Edit{{At: 1, End: 4}, {At: 1, End: 2}}, []api.Edit{{At: 1, End: 2}, {At: 1, End: 4}}},
		{[]api.Edit{{At: 2, End: 3}, {At: 1, End: 9}}, []api.Edit{{At: 1, End: 9}, {At: 2, End: 3}}},
		{ // alike in At and End: in their order, whatever their Texts are
			[]api.Edit{{At: 1, End: 1, Text: "b"}, {At: 0, End: 0}, {At: 1, End: 1, Text: "a"}, {At: 1, End: 1}, {At: 1, End: 1, Text: "c"}},
			[]api.Edit{{At: 0, End: 0}, {At: 1, End: 1, Text: "b"}, {At: 1, End: 1, Text: "a"}, {At: 1, End: 1}, {At: 1, End: 1, Text: "c"}},
		},
		{ // right or not
			[]api.Edit{{At: math.MaxInt, End: math.MinInt}, {At: 0, End: 0}, {At: math.MinInt, End: math.MaxInt}, {At: math.MinInt, End: math.MinInt}, {At: -2, End: -5}},
			[]api.Edit{{At: math.MinInt, End: math.MinInt}, {At: math.MinInt, End: math.MaxInt}, {At: -2, End: -5}, {At: 0, End: 0}, {At: math.MaxInt, End: math.MinInt}},
		},
	} {
		given := slices.Clone(c.l)
		got := edit.Sorted(c.l...)
		if !slices.Equal(got, c.want) {
			t.Errorf("Sorted(%v) = %v", given, got)
		}
		for i := range got { // the answer is the caller's own
			got[i] = api.Edit{At: 77}
		}
		untouched(t, "Sorted", given, c.l)
	}
}

// TestSortedOfMany has many edits that are alike in At and End, told apart by their Texts.
func TestSortedOfMany(t *testing.T) {
	var l []api.Edit
	for i := range 500 {
		l = append(l, api.Edit{At: i * 7 % 5, End: i * 3 % 4, Text: strings.Repeat("x", i)})
	}
	got := edit.Sorted(l...)
	if len(got) != len(l) {
		t.Fatalf("%d of %d", len(got), len(l))
	}
	for i := 1; i < len(got); i++ {
		a, b := got[i-1], got[i]
		if a.At > b.At || a.At == b.At && (a.End > b.End || a.End == b.End && len(a.Text) >= len(b.Text)) {
			t.Fatalf("%d, %d, number %d ahead of %d, %d, number %d", a.At, a.End, len(a.Text), b.At, b.End, len(b.Text))
		}
	}
}

func TestApply(t *testing.T) {
	for _, c := range []struct {
		s    string
		l    []api.Edit
		want string
	}{
		{"abcd", []api.Edit{{At: 1, End: 2, Text: "xy"}, {At: 4, End: 4, Text: "!"}}, "axycd!"},
		{"abcd", nil, "abcd"},
		{"abcd", []api.Edit{}, "abcd"},
		{"", nil, ""},
		{"", []api.Edit{{Text: "xy"}}, "xy"},
		{"", []api.Edit{{}}, ""},
		{"abcd", []api.Edit{{At: 0, End: 0, Text: "x"}}, "xabcd"},
		{"abcd", []api.Edit{{At: 4, End: 4, Text: "x"}}, "abcdx"},
		{"abcd", []api.Edit{{At: 0, End: 4}}, ""},
		{"abcd", []api.Edit{{At: 2, End: 2}}, "abcd"},
		{"abcd", []api.Edit{{At: 0, End: 1}, {At: 3, End: 4}}, "bc"},
		{"abcd", []api.Edit{{At: 0, End: 1, Text: "b"}, {At: 2, End: 3, Text: "cc"}}, "bbccd"}, // all at once
		{"abcd", []api.Edit{{At: 1, End: 1, Text: "x"}, {At: 2, End: 2, Text: "y"}}, "axbycd"},
		{"\xff\x00\n", []api.Edit{{At: 1, End: 2, Text: "\xfe"}}, "\xff\xfe\n"},
		{"äb", []api.Edit{{At: 1, End: 2}}, "\xc3b"}, // places are of bytes
	} {
		given := slices.Clone(c.l)
		if got, err := edit.Apply(c.s, c.l...); got != c.want || err != api.OK {
			t.Errorf("Apply(%q, %v) = %q, %v", c.s, c.l, got, err)
		}
		untouched(t, "Apply", given, c.l)
	}
}

func TestBack(t *testing.T) {
	for _, c := range []struct {
		s       string
		l, want []api.Edit
	}{
		{"abcd", []api.Edit{{At: 1, End: 2, Text: "xy"}, {At: 4, End: 4, Text: "!"}}, []api.Edit{{At: 1, End: 3, Text: "b"}, {At: 5, End: 6}}},
		{"abcd", nil, nil},
		{"", []api.Edit{}, nil},
		{"", []api.Edit{{Text: "xy"}}, []api.Edit{{At: 0, End: 2}}},
		{"", []api.Edit{{}}, []api.Edit{{}}}, // as many, even of one that does nothing
		{"abcd", []api.Edit{{At: 0, End: 4}}, []api.Edit{{At: 0, End: 0, Text: "abcd"}}},
		{"abcd", []api.Edit{{At: 0, End: 1}, {At: 2, End: 4, Text: "z"}}, []api.Edit{{At: 0, End: 0, Text: "a"}, {At: 1, End: 2, Text: "cd"}}},
		{"abcd", []api.Edit{{At: 2, End: 2}}, []api.Edit{{At: 2, End: 2}}},
		{"abcd", []api.Edit{{At: 1, End: 2, Text: "b"}}, []api.Edit{{At: 1, End: 2, Text: "b"}}},
	} {
		given := slices.Clone(c.l)
		got, err := edit.Back(c.s, c.l...)
		if !slices.Equal(got, c.want) || err != api.OK {
			t.Errorf("Back(%q, %v) = %v, %v", c.s, c.l, got, err)
		}
		untouched(t, "Back", given, c.l)
	}
}

func TestKept(t *testing.T) {
	for _, c := range []struct {
		n      int
		l      []api.Edit
		want   []api.Pair
		begins []int
	}{
		{4, []api.Edit{{At: 1, End: 2, Text: "xy"}, {At: 4, End: 4, Text: "!"}}, []api.Pair{{A: 0, B: 1}, {A: 2, B: 4}}, []int{0, 3}},
		{4, nil, []api.Pair{{A: 0, B: 4}}, []int{0}},
		{0, nil, nil, nil},
		{0, []api.Edit{{Text: "x"}}, nil, nil},
		{4, []api.Edit{{At: 0, End: 4, Text: "x"}}, nil, nil},
		{4, []api.Edit{{At: 0, End: 0, Text: "xy"}}, []api.Pair{{A: 0, B: 4}}, []int{2}},
		{4, []api.Edit{{At: 4, End: 4, Text: "xy"}}, []api.Pair{{A: 0, B: 4}}, []int{0}},
		{4, []api.Edit{{At: 2, End: 2, Text: "xy"}}, []api.Pair{{A: 0, B: 2}, {A: 2, B: 4}}, []int{0, 4}},
		{4, []api.Edit{{At: 2, End: 2}}, []api.Pair{{A: 0, B: 2}, {A: 2, B: 4}}, []int{0, 2}}, // one that does nothing parts them, too
		{4, []api.Edit{{At: 1, End: 1}, {At: 2, End: 3}}, []api.Pair{{A: 0, B: 1}, {A: 1, B: 2}, {A: 3, B: 4}}, []int{0, 1, 2}},
		{4, []api.Edit{{At: 0, End: 3}}, []api.Pair{{A: 3, B: 4}}, []int{0}},
		{math.MaxInt, nil, []api.Pair{{A: 0, B: math.MaxInt}}, []int{0}},
		{math.MaxInt, []api.Edit{{At: 1, End: math.MaxInt - 1, Text: "x"}}, []api.Pair{{A: 0, B: 1}, {A: math.MaxInt - 1, B: math.MaxInt}}, []int{0, 2}},
	} {
		given := slices.Clone(c.l)
		got, begins, err := edit.Kept(c.n, c.l...)
		if !slices.Equal(got, c.want) || !slices.Equal(begins, c.begins) || err != api.OK {
			t.Errorf("Kept(%d, %v) = %v, %v, %v", c.n, c.l, got, begins, err)
		}
		untouched(t, "Kept", given, c.l)
	}
}

func TestMap(t *testing.T) {
	example := []api.Edit{{At: 1, End: 2, Text: "xy"}, {At: 4, End: 4, Text: "!"}}
	for _, c := range []struct {
		n, at int
		l     []api.Edit
		want  int
		ok    bool
	}{
		{4, 0, example, 0, true},
		{4, 1, example, 0, false}, // taken
		{4, 2, example, 3, true},
		{4, 3, example, 4, true},
		{4, 4, example, 0, false}, // the text's end is no byte
		{4, 5, example, 0, false},
		{4, -1, example, 0, false},
		{4, math.MinInt, example, 0, false},
		{4, math.MaxInt, example, 0, false},
		{4, 3, nil, 3, true},
		{4, 4, nil, 0, false},
		{0, 0, nil, 0, false},
		{0, 0, []api.Edit{{Text: "x"}}, 0, false},
		{1, 0, []api.Edit{{Text: "xy"}}, 2, true}, // what is put ahead of a byte does not take it
		{2, 1, []api.Edit{{At: 0, End: 1}}, 0, true},
		{math.MaxInt, math.MaxInt - 1, []api.Edit{{At: 0, End: 1}}, math.MaxInt - 2, true},
		{math.MaxInt, math.MaxInt, nil, 0, false},
	} {
		given := slices.Clone(c.l)
		if got, ok := edit.Map(c.n, c.at, c.l...); got != c.want || ok != c.ok {
			t.Errorf("Map(%d, %d, %v) = %d, %v", c.n, c.at, c.l, got, ok)
		}
		untouched(t, "Map", given, c.l)
	}
	for _, c := range wrongOnes {
		for at := -1; at <= 8; at++ {
			if got, ok := edit.Map(c.n, at, c.l...); got != 0 || ok {
				t.Errorf("%s: Map(%d, %d, %v) = %d, %v", c.name, c.n, at, c.l, got, ok)
			}
		}
	}
}

// TestRefused holds each call's error against Check's: beside it stands nothing else.
func TestRefused(t *testing.T) {
	for n := range 4 {
		s := letters(n)
		for _, l := range anyLists(n) {
			want := wrong(n, l)
			made, e := edit.Apply(s, l...)
			back, f := edit.Back(s, l...)
			stretches, begins, g := edit.Kept(n, l...)
			if e != want || f != want || g != want {
				t.Fatalf("%v for %d bytes: Apply %v, Back %v, Kept %v, not %v", l, n, e, f, g, want)
			}
			if want != api.OK && (made != "" || len(back)+len(stretches)+len(begins) != 0) {
				t.Fatalf("%v for %d bytes: %q, %v, %v, %v beside %v", l, n, made, back, stretches, begins, want)
			}
		}
	}
	for _, n := range []int{-1, math.MinInt} {
		if stretches, begins, err := edit.Kept(n); err != api.ErrRange || len(stretches)+len(begins) != 0 {
			t.Errorf("Kept(%d) = %v, %v, %v", n, stretches, begins, err)
		}
	}
}

func TestApplyAndBackLeadBack(t *testing.T) {
	for n := range 6 {
		s := letters(n)
		for _, l := range rightLists(n) {
			made, err := edit.Apply(s, l...)
			if want := turned(s, l); made != want || err != api.OK {
				t.Fatalf("Apply(%q, %v) = %q, %v, not %q", s, l, made, err, want)
			}
			back, err := edit.Back(s, l...)
			if len(back) != len(l) || err != api.OK || edit.Check(len(made), back...) != api.OK {
				t.Fatalf("Back(%q, %v) = %v, %v", s, l, back, err)
			}
			for i := range back {
				if made[back[i].At:back[i].End] != l[i].Text || back[i].Text != s[l[i].At:l[i].End] {
					t.Fatalf("Back(%q, %v)[%d] = %v", s, l, i, back[i])
				}
			}
			if again, err := edit.Apply(made, back...); again != s || err != api.OK {
				t.Fatalf("Apply of Back of %v leads from %q to %q, %v", l, made, again, err)
			}
		}
	}
}

// TestKeptAndMapByLetters looks for each letter of a text in what is made of it: no two are alike.
func TestKeptAndMapByLetters(t *testing.T) {
	for n := range 6 {
		s := letters(n)
		for _, l := range rightLists(n) {
			made := turned(s, l)
			var pairs []api.Pair
			var places []int
			for at := range n {
				want := strings.IndexByte(made, s[at])
				got, ok := edit.Map(n, at, l...)
				if ok != (want >= 0) || ok && got != want || !ok && got != 0 {
					t.Fatalf("Map(%d, %d, %v) = %d, %v, not %d", n, at, l, got, ok, want)
				}
				if want < 0 {
					continue
				}
				parted := slices.ContainsFunc(l, func(e api.Edit) bool { return e.At == at && e.End == at })
				if k := len(pairs) - 1; k >= 0 && pairs[k].B == at && !parted {
					pairs[k].B++
					continue
				}
				pairs, places = append(pairs, api.Pair{A: at, B: at + 1}), append(places, want)
			}
			got, begins, err := edit.Kept(n, l...)
			if !slices.Equal(got, pairs) || !slices.Equal(begins, places) || err != api.OK {
				t.Fatalf("Kept(%d, %v) = %v, %v, %v, not %v, %v", n, l, got, begins, err, pairs, places)
			}
		}
	}
}

// TestKeptStandsInBoth takes what Kept tells out of both texts: what is left are the edits' bytes.
func TestKeptStandsInBoth(t *testing.T) {
	for n := range 6 {
		s := letters(n)
		for _, l := range rightLists(n) {
			made, _ := edit.Apply(s, l...)
			stretches, begins, _ := edit.Kept(n, l...)
			takes, puts, a, b := "", "", 0, 0
			for i, p := range stretches {
				k := begins[i]
				if p.A >= p.B || p.A < a || k < b || made[k:k+p.B-p.A] != s[p.A:p.B] {
					t.Fatalf("Kept(%d, %v) = %v, %v", n, l, stretches, begins)
				}
				takes, puts = takes+s[a:p.A], puts+made[b:k]
				a, b = p.B, k+p.B-p.A
			}
			takes, puts = takes+s[a:], puts+made[b:]
			for _, e := range l {
				takes, puts = strings.TrimPrefix(takes, s[e.At:e.End]), strings.TrimPrefix(puts, e.Text)
			}
			if takes+puts != "" {
				t.Fatalf("Kept(%d, %v) = %v, %v: %q, %q are no edit's", n, l, stretches, begins, takes, puts)
			}
		}
	}
}

func TestThen(t *testing.T) {
	for _, c := range []struct {
		s          string
		l, m, want []api.Edit
	}{
		{"abcd", nil, nil, nil},
		{"", []api.Edit{}, []api.Edit{}, nil},
		{"", []api.Edit{{Text: "xy"}}, []api.Edit{{At: 2, End: 2, Text: "z"}}, []api.Edit{{Text: "xyz"}}},
		{"", []api.Edit{{Text: "xy"}}, []api.Edit{{At: 0, End: 2}}, []api.Edit{{}}}, // one that does nothing
		{"abcd", []api.Edit{{At: 2, End: 2}}, nil, []api.Edit{{At: 2, End: 2}}},
		{"abcd", nil, []api.Edit{{At: 2, End: 2}}, []api.Edit{{At: 2, End: 2}}},
		{"abcd", []api.Edit{{At: 1, End: 2, Text: "xy"}}, nil, []api.Edit{{At: 1, End: 2, Text: "xy"}}},
		{"abcd", nil, []api.Edit{{At: 1, End: 2, Text: "xy"}}, []api.Edit{{At: 1, End: 2, Text: "xy"}}},
		{"abcd", []api.Edit{{At: 0, End: 1}, {At: 3, End: 4, Text: "z"}}, nil, []api.Edit{{At: 0, End: 4, Text: "bcz"}}},
		{"abcd", nil, []api.Edit{{At: 0, End: 0, Text: "x"}, {At: 4, End: 4, Text: "y"}}, []api.Edit{{At: 0, End: 4, Text: "xabcdy"}}},
		{"abcdef", []api.Edit{{At: 2, End: 3, Text: "xy"}}, []api.Edit{{At: 1, End: 3, Text: "z"}}, []api.Edit{{At: 1, End: 3, Text: "zy"}}},
		{"abcdef", []api.Edit{{At: 2, End: 3, Text: "xy"}}, []api.Edit{{At: 3, End: 5, Text: "z"}}, []api.Edit{{At: 2, End: 4, Text: "xz"}}},
		{"abcdef", []api.Edit{{At: 2, End: 3, Text: "xyz"}}, []api.Edit{{At: 3, End: 4}}, []api.Edit{{At: 2, End: 3, Text: "xz"}}},
		{"abcdef", []api.Edit{{At: 1, End: 2}}, []api.Edit{{At: 3, End: 4, Text: "z"}}, []api.Edit{{At: 1, End: 5, Text: "cdz"}}},
		{"abcdef", []api.Edit{{At: 4, End: 5, Text: "xyz"}}, []api.Edit{{At: 1, End: 2}}, []api.Edit{{At: 1, End: 5, Text: "cdxyz"}}},
		{"abcd", []api.Edit{{At: 1, End: 2, Text: "x"}}, []api.Edit{{At: 1, End: 2, Text: "b"}}, []api.Edit{{At: 1, End: 2, Text: "b"}}},
	} {
		l, m := slices.Clone(c.l), slices.Clone(c.m)
		got, err := edit.Then(c.s, c.l, c.m)
		if !slices.Equal(got, c.want) || err != api.OK {
			t.Errorf("Then(%q, %v, %v) = %v, %v", c.s, c.l, c.m, got, err)
		}
		untouched(t, "Then", l, c.l)
		untouched(t, "Then", m, c.m)
	}
}

// stretch is from where to where of a text of n bytes l touches, and m of what l makes: a place that m touches outside of what l has put in stands at an end of, or in, what l keeps.
func stretch(n int, l, m []api.Edit) (int, int) {
	var touched []int
	for _, e := range l {
		touched = append(touched, e.At, e.End)
	}
	stretches, begins, _ := edit.Kept(n, l...)
	if len(l) == 0 { // the empty text has no stretch, but a place
		stretches, begins = []api.Pair{{A: 0, B: n}}, []int{0}
	}
	for _, e := range m {
		for _, p := range []int{e.At, e.End} {
			for i, k := range stretches {
				if begins[i] <= p && p <= begins[i]+k.B-k.A {
					touched = append(touched, k.A+p-begins[i])
				}
			}
		}
	}
	return slices.Min(touched), slices.Max(touched)
}

// TestThenIsOneBehindTheOther holds Then against two calls of Apply, at all short texts.
func TestThenIsOneBehindTheOther(t *testing.T) {
	var of [5][][]api.Edit
	for n := range of {
		of[n] = rightLists(n)
	}
	for n := range 4 {
		s := letters(n)
		for _, l := range of[n] {
			mid := turned(s, l)
			if len(mid) >= len(of) { // longer ones have too many lists to go through
				continue
			}
			for _, m := range of[len(mid)] {
				made := turned(mid, m)
				got, err := edit.Then(s, l, m)
				if len(l)+len(m) == 0 {
					if len(got) != 0 || err != api.OK {
						t.Fatalf("Then(%q, none, none) = %v, %v", s, got, err)
					}
					continue
				}
				at, end := stretch(n, l, m)
				if len(got) != 1 || err != api.OK || got[0].At != at || got[0].End != end {
					t.Fatalf("Then(%q, %v, %v) = %v, %v, not from %d to %d", s, l, m, got, err, at, end)
				}
				if again, err := edit.Apply(s, got...); again != made || err != api.OK {
					t.Fatalf("Then(%q, %v, %v) = %v: %q, %v, not %q", s, l, m, got, again, err, made)
				}
			}
		}
	}
}

func TestThenRefused(t *testing.T) {
	right := []api.Edit{{At: 1, End: 2}}
	for _, c := range wrongOnes {
		if c.n < 0 {
			continue
		}
		s := letters(c.n)
		if got, err := edit.Then(s, c.l, nil); len(got) != 0 || err != c.want {
			t.Errorf("%s: Then(%q, %v, none) = %v, %v", c.name, s, c.l, got, err)
		}
		if got, err := edit.Then(s, nil, c.l); len(got) != 0 || err != c.want {
			t.Errorf("%s: Then(%q, none, %v) = %v, %v", c.name, s, c.l, got, err)
		}
		if got, err := edit.Then(s, c.l, []api.Edit{{At: -1}}); len(got) != 0 || err != c.want { // that of l first
			t.Errorf("%s: Then(%q, %v, not there) = %v, %v", c.name, s, c.l, got, err)
		}
	}
	for _, c := range []struct {
		s    string
		l, m []api.Edit
		want api.Errno
	}{
		{"abcd", right, []api.Edit{{At: 3, End: 4}}, api.ErrRange}, // m is of the text that l makes: it is shorter
		{"abcd", []api.Edit{{At: 4, End: 4, Text: "x"}}, []api.Edit{{At: 5, End: 5}}, api.OK},
		{"abcd", []api.Edit{{At: 4, End: 4, Text: "x"}}, []api.Edit{{At: 6, End: 6}}, api.ErrRange},
		{"abcd", right, []api.Edit{{At: 1, End: 1}, {At: 1, End: 1}}, api.ErrOverlap},
		{"abcd", []api.Edit{{At: 1, End: 2}, {At: 2, End: 3}}, []api.Edit{{At: 9, End: 9}}, api.ErrOverlap}, // of l first, whatever m's is
	} {
		if got, err := edit.Then(c.s, c.l, c.m); err != c.want || (len(got) != 0) != (err == api.OK) {
			t.Errorf("Then(%q, %v, %v) = %v, %v", c.s, c.l, c.m, got, err)
		}
	}
}

// TestAnswersAreTheCallersOwn writes into what was handed out, and into what was handed in, and asks again.
func TestAnswersAreTheCallersOwn(t *testing.T) {
	l := []api.Edit{{At: 1, End: 2, Text: "xy"}, {At: 4, End: 4, Text: "!"}}
	given := slices.Clone(l)
	spoil := func(l []api.Edit) {
		for i := range l {
			l[i] = api.Edit{At: -9, End: 99, Text: "spoilt"}
		}
	}
	for range 2 {
		back, _ := edit.Back("abcd", l...)
		then, _ := edit.Then("abcd", l, l[:1])
		stretches, begins, _ := edit.Kept(4, l...)
		if !slices.Equal(back, []api.Edit{{At: 1, End: 3, Text: "b"}, {At: 5, End: 6}}) ||
			!slices.Equal(then, []api.Edit{{At: 1, End: 4, Text: "xyycd!"}}) ||
			!slices.Equal(stretches, []api.Pair{{A: 0, B: 1}, {A: 2, B: 4}}) || !slices.Equal(begins, []int{0, 3}) {
			t.Fatal(back, then, stretches, begins)
		}
		spoil(back)
		spoil(then)
		clear(stretches)
		clear(begins)
		untouched(t, "a call", given, l)
	}
	sorted := edit.Sorted(l...)
	spoil(l)
	if !slices.Equal(sorted, given) {
		t.Errorf("Sorted has kept its argument: %v", sorted)
	}
}

// TestAnswersShareNoBytes asks where the bytes of texts lie: a text that is handed in is not kept.
func TestAnswersShareNoBytes(t *testing.T) {
	s, x := strings.Repeat("a", 40), strings.Repeat("x", 40)
	l := []api.Edit{{At: 0, End: 40, Text: x}}
	same, _ := edit.Apply(s)
	made, _ := edit.Apply(s, l...)
	back, _ := edit.Back(s, l...)
	then, _ := edit.Then(s, l, nil)
	for i, got := range []string{same, made, back[0].Text, then[0].Text, edit.Sorted(l...)[0].Text} {
		if p := unsafe.StringData(got); p == unsafe.StringData(s) || p == unsafe.StringData(x) {
			t.Errorf("answer %d is an argument's own memory", i)
		}
	}
}

// TestRefusedChangesNothing asks the same ahead of calls that are refused and behind them.
func TestRefusedChangesNothing(t *testing.T) {
	right := []api.Edit{{At: 1, End: 2, Text: "xy"}, {At: 4, End: 4, Text: "!"}}
	for _, c := range wrongOnes {
		s := letters(max(c.n, 0))
		edit.Check(c.n, c.l...)
		edit.Sorted(c.l...)
		edit.Apply(s, c.l...)
		edit.Back(s, c.l...)
		edit.Kept(c.n, c.l...)
		edit.Map(c.n, 1, c.l...)
		edit.Then(s, c.l, c.l)
		if got, err := edit.Apply("abcd", right...); got != "axycd!" || err != api.OK {
			t.Fatalf("behind %s: %q, %v", c.name, got, err)
		}
		if got, ok := edit.Map(4, 2, right...); got != 3 || !ok {
			t.Fatalf("behind %s: %d, %v", c.name, got, ok)
		}
	}
}
