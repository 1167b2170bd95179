package match_test

import (
	"math"
	"slices"
	"testing"

	"oriel/api"
	"oriel/match"
)

// rows is done with all rows of up to most pairs of the numbers from low to high.
func rows(most, low, high int, done func([]api.Pair)) {
	var grow func(row []api.Pair)
	grow = func(row []api.Pair) {
		done(row)
		if len(row) == most {
			return
		}
		for a := low; a <= high; a++ {
			for b := low; b <= high; b++ {
				grow(append(slices.Clone(row), api.Pair{A: a, B: b}))
			}
		}
	}
	grow(nil)
}

// The chapter's example.
func TestExample(t *testing.T) {
	if l := match.Links(pairs(3, 1, 1, 3, 2, 2)...); !slices.Equal(l, pairs(1, 3)) {
		t.Error(l)
	}
	if l := match.Class(4, pairs(1, 3)); !slices.Equal(l, []int{0, 1, 2, 1}) {
		t.Error(l)
	}
}

// P12.2: what stands ahead in this row is less.
func TestLess(t *testing.T) {
	numbers := []int{math.MinInt, math.MinInt + 1, -2, -1, 0, 1, 2, 10, math.MaxInt - 1, math.MaxInt}
	var row []api.Pair
	for _, a := range numbers {
		for _, b := range numbers {
			row = append(row, api.Pair{A: a, B: b})
		}
	}
	for i, a := range row {
		for j, b := range row {
			if match.Less(a, b) != (i < j) {
				t.Error(a, b)
			}
		}
	}
}

// P12.2: each pair of different numbers that is told, either way, is there, and nothing else is; all in order.
func TestLinks(t *testing.T) {
	rows(3, -2, 2, func(l []api.Pair) {
		var want []api.Pair
		for a := -2; a <= 2; a++ {
			for b := a + 1; b <= 2; b++ {
				if slices.Contains(l, api.Pair{A: a, B: b}) || slices.Contains(l, api.Pair{A: b, B: a}) {
					want = append(want, api.Pair{A: a, B: b})
				}
			}
		}
		if got := match.Links(l...); !slices.Equal(got, want) {
			t.Fatal(l, got)
		}
		if got := match.Links(want...); !slices.Equal(got, want) {
			t.Fatal("not so any more", want, got)
		}
	})
}

// P12.2: numbers of any size, and more pairs.
func TestLinksEdges(t *testing.T) {
	const least, most = math.MinInt, math.MaxInt
	for _, c := range []struct{ l, want []api.Pair }{
		{nil, nil},
		{pairs(0, 0), nil},
		{pairs(most, most, least, least), nil},
		{pairs(most, least), pairs(least, most)},
		{pairs(0, most, least, 0, most, 0, 0, least), pairs(least, 0, 0, most)},
		{pairs(10, 9, 2, 1, 10, 2), pairs(1, 2, 2, 10, 9, 10)},
		{pairs(0, 5, 0, 3, 0, 4), pairs(0, 3, 0, 4, 0, 5)},
		{pairs(5, 0, 3, 0, 4, 0), pairs(0, 3, 0, 4, 0, 5)},
	} {
		if got := match.Links(c.l...); !slices.Equal(got, c.want) {
			t.Error(c.l, got)
		}
	}
	const n = 1 << 18
	var l, want []api.Pair
	for i := range n {
		x := i * 7919 % n
		l = append(l, api.Pair{A: x + 1, B: x}, api.Pair{A: x, B: x + 1}, api.Pair{A: x, B: x})
		want = append(want, api.Pair{A: i, B: i + 1})
	}
	if got := match.Links(l...); !slices.Equal(got, want) {
		t.Error(len(got))
	}
}

// flood is all numbers to which pairs lead from x, by those that are asked for, x itself among them.
func flood(l []api.Pair, x int, asked func(api.Pair) bool) map[int]int {
	met := map[int]int{x: 1}
	for before := 0; before < len(met); {
		before = len(met)
		for _, p := range l {
			if asked(p) && met[p.A]+met[p.B] > 0 {
				met[p.A], met[p.B] = 1, 1
			}
		}
	}
	return met
}

// P12.3, P12.6: all short rows of pairs, some with numbers that are none of the n.
func TestClass(t *testing.T) {
	rows(3, -1, 4, func(l []api.Pair) {
		for n := range 6 {
			within := func(p api.Pair) bool { return min(p.A, p.B) >= 0 && max(p.A, p.B) < n }
			got := match.Class(n, l)
			if len(got) != n {
				t.Fatal(n, l, got)
			}
			for x := range n {
				least := x
				for y := range flood(l, x, within) {
					least = min(least, y)
				}
				if got[x] != least {
					t.Fatal(n, l, got)
				}
			}
		}
	})
}

// P12.3: an n that is none, the greatest one, and numbers of any size in pairs.
func TestClassEdges(t *testing.T) {
	const most = api.MaxBytes
	for _, n := range []int{-1, math.MinInt, most + 1, math.MaxInt} {
		if l := match.Class(n, pairs(0, 1)); len(l) != 0 {
			t.Error(n, len(l))
		}
	}
	if l := match.Class(0, pairs(0, 0)); len(l) != 0 {
		t.Error(l)
	}
	l := match.Class(most, pairs(most-1, 5, most, 0, most-1, most, most-2, most-1, 0, -1, math.MaxInt, 1, 2, math.MinInt))
	if len(l) != most {
		t.Fatal(len(l))
	}
	for i, x := range l {
		want := i
		if i == most-1 || i == most-2 {
			want = 5
		}
		if x != want {
			t.Fatal(i, x)
		}
	}
}

// P12.3: Linked is what pairs lead to, over numbers of any kind; P12.6: it goes both ways, and on.
func TestLinked(t *testing.T) {
	all := func(api.Pair) bool { return true }
	rows(3, -1, 3, func(l []api.Pair) {
		for a := -2; a <= 4; a++ {
			to := flood(l, a, all)
			for b := -2; b <= 4; b++ {
				if got := match.Linked(l, a, b); got != (to[b] > 0) {
					t.Fatal(l, a, b, got)
				}
			}
		}
	})
	const least, most = math.MinInt, math.MaxInt
	far := pairs(least, most, -1, least, 7, 8)
	for _, c := range []struct {
		a, b int
		want bool
	}{
		{least, most, true}, {most, least, true}, {-1, most, true}, {most, -1, true}, {most, most, true},
		{7, 8, true}, {7, most, false}, {least, 8, false}, {0, 0, true}, {0, 1, false}, {9, -1, false},
	} {
		if got := match.Linked(far, c.a, c.b); got != c.want {
			t.Error(c, got)
		}
	}
	if !match.Linked(nil, 3, 3) || match.Linked(nil, 3, 4) {
		t.Error("of no pairs")
	}
}

// P12.6: two numbers are of one class just where they are linked.
func TestClassesAreLinked(t *testing.T) {
	r := rolls(126)
	for range 300 {
		n := r.below(30) + 1
		var l []api.Pair
		for range r.below(n) {
			l = append(l, api.Pair{A: r.below(n), B: r.below(n)})
		}
		class := match.Class(n, l)
		for a := range n {
			for b := range n {
				if match.Linked(l, a, b) != (class[a] == class[b]) {
					t.Fatal(l, a, b)
				}
			}
		}
		if again := match.Class(n, match.Links(l...)); !slices.Equal(again, class) {
			t.Fatal(l, again)
		}
	}
}

// P1: rows of very many pairs, in orders that rise, fall, and mix, told either way.
func TestManyPairs(t *testing.T) {
	const n = 1 << 17
	for what, at := range map[string]func(i int) int{
		"rising":  func(i int) int { return i },
		"falling": func(i int) int { return n - 2 - i },
		"mixed":   func(i int) int { return i * 7919 % (n - 1) },
	} {
		var ahead, behind, star []api.Pair
		for i := range n - 1 {
			x := at(i)
			ahead = append(ahead, api.Pair{A: x, B: x + 1})
			behind = append(behind, api.Pair{A: x + 1, B: x})
			star = append(star, api.Pair{A: n - 1, B: x})
		}
		for _, l := range [][]api.Pair{ahead, behind, star} {
			if class := match.Class(n, l); len(class) != n || slices.Max(class) != 0 {
				t.Error(what)
			}
			if !match.Linked(l, 0, n-1) || !match.Linked(l, n/2, 1) || match.Linked(l, 0, n) {
				t.Error(what)
			}
			if got := match.Links(l...); len(got) != n-1 || !slices.IsSortedFunc(got, func(a, b api.Pair) int { return a.A + a.B - b.A - b.B }) {
				t.Error(what)
			}
		}
	}
}

// P1: pairs of which each makes the way from one number to the least of its class longer.
func TestLongWays(t *testing.T) {
	const n = 1 << 22
	var l []api.Pair
	for i := n - 2; i >= 0; i-- {
		l = append(l, api.Pair{A: n - 1, B: i})
	}
	if class := match.Class(n, l); len(class) != n || slices.Max(class) != 0 {
		t.Error(len(class))
	}
}

// Rule 3: lists that are handed in stay what they are, and those that are handed out are the caller's own.
func TestListsAreKeptApart(t *testing.T) {
	l := pairs(3, 1, 2, 2, 1, 3, 0, 2)
	was := slices.Clone(l)
	for range 2 {
		links, class := match.Links(l[:3]...), match.Class(4, l[:3])
		if !slices.Equal(links, pairs(1, 3)) || !slices.Equal(class, []int{0, 1, 2, 1}) || match.Linked(l[:3], 0, 2) {
			t.Error(links, class)
		}
		_ = append(links, pairs(9, 9)...)
		clear(links)
		clear(class)
		if !slices.Equal(l, was) {
			t.Fatal("changed", l)
		}
	}
	rising := pairs(1, 2, 3, 4)
	if got := match.Links(rising...); &got[0] == &rising[0] {
		t.Error("what was handed in is handed out")
	}
}
