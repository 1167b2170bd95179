package tree_test

import (
	"math"
	"reflect"
	"slices"
	"testing"

	"oriel/api"
	"oriel/tree"
)

// wrongNumbers is numbers of which no tree of these tests has a node.
var wrongNumbers = []int{-1, -2, math.MinInt, math.MaxInt, 1 << 32, 1 << 40}

// shapes is all branches of n parts, of kind and span zero.
func shapes(n int) []api.Branch {
	var all []api.Branch
	for _, kids := range rows(n - 1) {
		all = append(all, api.Branch{Kids: kids})
	}
	return all
}

// rows is all lists of branches that have n parts in all.
func rows(n int) [][]api.Branch {
	if n == 0 {
		return [][]api.Branch{nil}
	}
	var all [][]api.Branch
	for k := 1; k <= n; k++ {
		for _, first := range shapes(k) {
			for _, rest := range rows(n - k) {
				all = append(all, append([]api.Branch{first}, rest...))
			}
		}
	}
	return all
}

// copied is b in memory of its own, with nil lists where they are empty.
func copied(b api.Branch) api.Branch {
	out := b
	out.Names, out.Kids = nil, nil
	out.Names = append(out.Names, b.Names...)
	for _, kid := range b.Kids {
		out.Kids = append(out.Kids, copied(kid))
	}
	return out
}

// every is pointers to b and all its parts, in the order.
func every(b *api.Branch) []*api.Branch {
	all := []*api.Branch{b}
	for i := range b.Kids {
		all = append(all, every(&b.Kids[i])...)
	}
	return all
}

// told is b with other numbers in each of its parts.
func told(b api.Branch) api.Branch {
	b = copied(b)
	for i, part := range every(&b) {
		part.Kind, part.Mark, part.From, part.To = 100+i, -i, 1000-i, 7*i-20
		for k := range i % 3 {
			part.Names = append(part.Names, 10*i+k)
		}
	}
	return b
}

// part is what an answer of a tree is held against: a part of a branch, and those about it, by their numbers.
type part struct {
	branch   api.Branch
	up, next int
	kids     []int
	all      []int
	path     []int
}

// parts is all parts of b, in the order.
func parts(b api.Branch) []part {
	var all []part
	var add func(b api.Branch, above []int)
	add = func(b api.Branch, above []int) {
		n := len(all)
		path := append([]int{n}, above...)
		p := part{branch: b, up: -1, next: -1, path: path}
		if len(above) > 0 {
			p.up = above[0]
		}
		all = append(all, p)
		for _, kid := range b.Kids {
			k := len(all)
			if had := all[n].kids; len(had) > 0 {
				all[had[len(had)-1]].next = k
			}
			all[n].kids = append(all[n].kids, k)
			add(kid, path)
		}
		for k := n; k < len(all); k++ {
			all[n].all = append(all[n].all, k)
		}
	}
	add(b, nil)
	return all
}

func (p part) knot() api.Knot {
	first := -1
	if len(p.kids) > 0 {
		first = p.kids[0]
	}
	b := p.branch
	return api.Knot{Kind: b.Kind, Mark: b.Mark, From: b.From, To: b.To, Up: p.up, First: first, Next: p.next}
}

// checkTree holds all that a tree of b answers against its parts.
func checkTree(t *testing.T, b api.Branch) {
	t.Helper()
	all := parts(b)
	r := tree.Make(b)
	if r.Len() != len(all) {
		t.Fatalf("%v: %d nodes, not %d", b, r.Len(), len(all))
	}
	for n, p := range all {
		if k, ok := r.Knot(n); !ok || k != p.knot() {
			t.Fatalf("%v: knot %d: %v %v", b, n, k, ok)
		}
		if l := r.Names(n); !slices.Equal(l, p.branch.Names) {
			t.Fatalf("%v: names of %d: %v", b, n, l)
		}
		if l := r.Kids(n); !slices.Equal(l, p.kids) {
			t.Fatalf("%v: kids of %d: %v", b, n, l)
		}
		if d := r.Deep(n); d != len(p.path) {
			t.Fatalf("%v: %d lies %d deep", b, n, d)
		}
		if l := r.Walk(n); !slices.Equal(l, p.all) {
			t.Fatalf("%v: walk from %d: %v", b, n, l)
		}
		if l := r.Path(n); !slices.Equal(l, p.path) {
			t.Fatalf("%v: path from %d: %v", b, n, l)
		}
		if back := r.Branch(n); !reflect.DeepEqual(copied(back), copied(p.branch)) {
			t.Fatalf("%v: branch of %d: %v", b, n, back)
		}
	}
	for _, n := range append([]int{len(all), len(all) + 1}, wrongNumbers...) {
		checkNothing(t, r, n)
	}
}

// checkNothing: r has no node n.
func checkNothing(t *testing.T, r *tree.Tree, n int) {
	t.Helper()
	if k, ok := r.Knot(n); ok || k != (api.Knot{}) {
		t.Fatal(n, k, ok)
	}
	if len(r.Names(n))+len(r.Kids(n))+len(r.Walk(n))+len(r.Path(n)) != 0 || r.Deep(n) != 0 {
		t.Fatal(n, r.Names(n), r.Kids(n), r.Walk(n), r.Path(n), r.Deep(n))
	}
	if b := r.Branch(n); !reflect.DeepEqual(b, api.Branch{}) {
		t.Fatal(n, b)
	}
}

// example is the branch of the chapter's example.
func example() api.Branch {
	return api.Branch{Kind: 1, To: 9, Kids: []api.Branch{
		{Kind: 2, Mark: 1, From: 0, To: 4, Names: []int{0, 2}, Kids: []api.Branch{{Kind: 3, From: 1, To: 2}}},
		{Kind: 4, From: 6, To: 8, Names: []int{7}},
	}}
}

// P6.1, P6.2

func TestExample(t *testing.T) {
	r := tree.Make(example())
	if r.Len() != 4 || !slices.Equal(r.Kids(0), []int{1, 3}) || r.Deep(2) != 3 {
		t.Fatal(r.Len(), r.Kids(0), r.Deep(2))
	}
	for n, want := range []api.Knot{
		{Kind: 1, From: 0, To: 9, Up: -1, First: 1, Next: -1},
		{Kind: 2, Mark: 1, From: 0, To: 4, Up: 0, First: 2, Next: 3},
		{Kind: 3, From: 1, To: 2, Up: 1, First: -1, Next: -1},
		{Kind: 4, From: 6, To: 8, Up: 0, First: -1, Next: -1},
	} {
		if k, ok := r.Knot(n); !ok || k != want {
			t.Error(n, k, ok)
		}
	}
	if !slices.Equal(r.Names(1), []int{0, 2}) || !slices.Equal(r.Names(3), []int{7}) || len(r.Names(0)) != 0 {
		t.Error(r.Names(1), r.Names(3), r.Names(0))
	}
	if !slices.Equal(r.Walk(1), []int{1, 2}) || !slices.Equal(r.Walk(0), []int{0, 1, 2, 3}) || !slices.Equal(r.Walk(3), []int{3}) {
		t.Error(r.Walk(1), r.Walk(0), r.Walk(3))
	}
	if !slices.Equal(r.Path(2), []int{2, 1, 0}) || !slices.Equal(r.Path(3), []int{3, 0}) || !slices.Equal(r.Path(0), []int{0}) {
		t.Error(r.Path(2), r.Path(3), r.Path(0))
	}
	checkTree(t, example())
}

func TestAllShapes(t *testing.T) {
	for n := 1; n <= 8; n++ {
		for _, b := range shapes(n) {
			checkTree(t, told(b))
		}
	}
}

func TestListsThatAreEmpty(t *testing.T) {
	checkTree(t, api.Branch{})
	checkTree(t, api.Branch{Names: []int{}, Kids: []api.Branch{}})
	checkTree(t, api.Branch{Kids: []api.Branch{{Names: []int{}}, {Kids: []api.Branch{}}}})
}

func TestNumbersOfAnySize(t *testing.T) {
	checkTree(t, api.Branch{
		Kind: math.MinInt, Mark: math.MaxInt, From: math.MaxInt, To: math.MinInt, Names: []int{math.MinInt, 5, 5, math.MaxInt},
		Kids: []api.Branch{{Kind: -1, From: math.MinInt, To: math.MaxInt, Names: []int{-1}}},
	})
}

// P6.3

// wantWithin is what Within has to answer: each node is asked, with all above it.
func wantWithin(b api.Branch, tok int) int {
	all := parts(b)
	best := -1
	for n, p := range all {
		fits := true
		for _, k := range p.path {
			fits = fits && all[k].branch.From <= tok && all[k].branch.To > tok
		}
		if fits && (best < 0 || len(p.path) >= len(all[best].path)) {
			best = n
		}
	}
	return best
}

func checkWithin(t *testing.T, b api.Branch, toks ...int) {
	t.Helper()
	r := tree.Make(b)
	for _, tok := range toks {
		if n := r.Within(tok); n != wantWithin(b, tok) {
			t.Fatalf("%v: within %d: %d, not %d", b, tok, n, wantWithin(b, tok))
		}
	}
}

func TestWithinOfExample(t *testing.T) {
	r := tree.Make(example())
	for tok, want := range []int{1, 2, 1, 1, 0, 0, 3, 3, 0, -1} {
		if n := r.Within(tok); n != want {
			t.Errorf("%d: %d, not %d", tok, n, want)
		}
	}
	for _, tok := range append([]int{9, 10}, wrongNumbers...) {
		if n := r.Within(tok); n != -1 {
			t.Errorf("%d: %d", tok, n)
		}
	}
}

func TestWithinEdges(t *testing.T) {
	for _, x := range []struct {
		b    api.Branch
		tok  int
		want int
	}{
		// of two as deep as one another the last one
		{api.Branch{To: 2, Kids: []api.Branch{{To: 2}, {To: 2}}}, 1, 2},
		// the deeper one, though another one stands behind it
		{api.Branch{To: 2, Kids: []api.Branch{{To: 2, Kids: []api.Branch{{To: 2}}}, {To: 2}}}, 1, 2},
		// of two below others the last one in the order
		{api.Branch{To: 2, Kids: []api.Branch{{To: 2, Kids: []api.Branch{{To: 2}}}, {To: 2, Kids: []api.Branch{{To: 2}}}}}, 1, 4},
		// not below a node that does not have it
		{api.Branch{To: 2, Kids: []api.Branch{{To: 1, Kids: []api.Branch{{To: 2}}}}}, 1, 0},
		{api.Branch{To: 1, Kids: []api.Branch{{To: 2}}}, 1, -1},
		// a node has its From and has not its To
		{api.Branch{From: 3, To: 5}, 3, 0},
		{api.Branch{From: 3, To: 5}, 4, 0},
		{api.Branch{From: 3, To: 5}, 5, -1},
		{api.Branch{From: 3, To: 5}, 2, -1},
		{api.Branch{From: 3, To: 3}, 3, -1},
		// numbers below 0 are as others
		{api.Branch{From: -3, To: 0, Kids: []api.Branch{{From: -2, To: -1}}}, -2, 1},
		{api.Branch{From: math.MinInt, To: math.MaxInt}, math.MinInt, 0},
		{api.Branch{From: math.MinInt, To: math.MaxInt}, math.MaxInt, -1},
	} {
		if n := tree.Make(x.b).Within(x.tok); n != x.want {
			t.Errorf("%v: within %d: %d, not %d", x.b, x.tok, n, x.want)
		}
	}
}

// spanned hands on b with all spans of numbers from least up to greatest at each part.
func spanned(b api.Branch, least, greatest int, look func(b api.Branch)) {
	all := every(&b)
	var next func(n int)
	next = func(n int) {
		if n == len(all) {
			look(b)
			return
		}
		for all[n].From = least; all[n].From <= greatest; all[n].From++ {
			for all[n].To = least; all[n].To <= greatest; all[n].To++ {
				next(n + 1)
			}
		}
	}
	next(0)
}

func TestWithinOfAllSpans(t *testing.T) {
	for n := 1; n <= 4; n++ {
		for _, b := range shapes(n) {
			spanned(b, 0, 2, func(b api.Branch) { checkWithin(t, b, -1, 0, 1, 2) })
		}
	}
	for _, b := range shapes(3) {
		spanned(b, -1, 2, func(b api.Branch) { checkWithin(t, b, -2, -1, 0, 1, 2, 3) })
	}
}

func TestWithinOfShapesThatAllHaveIt(t *testing.T) {
	for n := 1; n <= 8; n++ {
		for _, b := range shapes(n) {
			for _, p := range every(&b) {
				p.To = 1
			}
			checkWithin(t, b, 0, 1)
		}
	}
}

// P6.4

// wantRight is whether b is right, asked of each part by itself.
func wantRight(b api.Branch) bool {
	for _, p := range every(&b) {
		if p.From < 0 || p.From > p.To {
			return false
		}
		for _, name := range p.Names {
			if name < p.From || name >= p.To {
				return false
			}
		}
		edges := []int{p.From}
		for _, kid := range p.Kids {
			edges = append(edges, kid.From, kid.To)
		}
		if !slices.IsSorted(append(edges, p.To)) {
			return false
		}
	}
	return true
}

func TestRightEdges(t *testing.T) {
	for _, x := range []struct {
		b    api.Branch
		want bool
	}{
		{api.Branch{}, true},
		{api.Branch{From: 3, To: 3}, true},
		{api.Branch{From: -1, To: 3}, false},
		{api.Branch{From: -2, To: -1}, false},
		{api.Branch{From: 4, To: 3}, false},
		{api.Branch{From: math.MinInt, To: math.MaxInt}, false},
		{api.Branch{To: math.MaxInt, Names: []int{math.MaxInt - 1}}, true},
		{api.Branch{To: math.MaxInt, Names: []int{math.MaxInt}}, false},
		// names: in any order, more than once, among the branch's tokens
		{api.Branch{From: 1, To: 4, Names: []int{3, 1, 1}}, true},
		{api.Branch{From: 1, To: 4, Names: []int{1, 0}}, false},
		{api.Branch{From: 1, To: 4, Names: []int{4, 1}}, false},
		{api.Branch{From: 1, To: 1, Names: []int{1}}, false},
		// kids: from the branch's From on, one behind the other, up to its To
		{api.Branch{From: 1, To: 4, Kids: []api.Branch{{From: 1, To: 4}}}, true},
		{api.Branch{From: 1, To: 4, Kids: []api.Branch{{From: 0, To: 4}}}, false},
		{api.Branch{From: 1, To: 4, Kids: []api.Branch{{From: 1, To: 5}}}, false},
		{api.Branch{From: 1, To: 4, Kids: []api.Branch{{From: 4, To: 4}}}, true},
		{api.Branch{From: 1, To: 4, Kids: []api.Branch{{From: 5, To: 5}}}, false},
		{api.Branch{To: 4, Kids: []api.Branch{{To: 2}, {From: 2, To: 4}}}, true},
		{api.Branch{To: 4, Kids: []api.Branch{{To: 2}, {From: 3, To: 4}}}, true},
		{api.Branch{To: 4, Kids: []api.Branch{{To: 2}, {From: 1, To: 4}}}, false},
		{api.Branch{To: 4, Kids: []api.Branch{{From: 2, To: 4}, {To: 2}}}, false},
		{api.Branch{To: 4, Kids: []api.Branch{{}, {}, {To: 4}, {From: 4, To: 4}}}, true},
		// what is wrong below
		{api.Branch{To: 4, Kids: []api.Branch{{To: 2, Names: []int{2}}}}, false},
		{api.Branch{To: 4, Kids: []api.Branch{{To: 2}, {From: 2, To: 4, Kids: []api.Branch{{From: 1, To: 3}}}}}, false},
		{api.Branch{To: 4, Kids: []api.Branch{{From: 2, To: 1}, {From: 1, To: 4}}}, false},
		{example(), true},
		{api.Branch{Kind: -5, Mark: 99, To: 1}, true},
	} {
		if tree.Right(x.b) != x.want || wantRight(x.b) != x.want {
			t.Errorf("%v: %v", x.b, !x.want)
		}
	}
}

func TestRightOfAllSpans(t *testing.T) {
	count := 0
	for n := 1; n <= 4; n++ {
		for _, b := range shapes(n) {
			spanned(b, -1, 2, func(b api.Branch) {
				want := wantRight(b)
				if tree.Right(b) != want {
					t.Fatalf("%v: %v", b, !want)
				}
				if want {
					count++
				}
			})
		}
	}
	if count == 0 {
		t.Fatal("none is right")
	}
}

func TestRightOfAllNames(t *testing.T) {
	for _, b := range append(shapes(2), shapes(1)...) {
		for _, p := range every(&b) {
			for name := -1; name <= 3; name++ {
				p.Names = []int{name}
				spanned(b, 0, 3, func(b api.Branch) {
					if tree.Right(b) != wantRight(b) {
						t.Fatalf("%v: %v", b, tree.Right(b))
					}
				})
			}
			p.Names = nil
		}
	}
}

func TestSameOfAllPairs(t *testing.T) {
	var all []api.Branch
	for n := 1; n <= 5; n++ {
		for _, b := range shapes(n) {
			all = append(all, b, told(b))
		}
	}
	for _, a := range all {
		for _, b := range all {
			if want := reflect.DeepEqual(a, b); tree.Same(a, b) != want {
				t.Fatalf("%v %v: %v", a, b, !want)
			}
		}
	}
}

// spoilt hands on copies of b in which one thing is another one.
func spoilt(b api.Branch, look func(n int, b api.Branch)) {
	ways := []func(p *api.Branch){
		func(p *api.Branch) { p.Kind++ },
		func(p *api.Branch) { p.Mark-- },
		func(p *api.Branch) { p.From++ },
		func(p *api.Branch) { p.To-- },
		func(p *api.Branch) { p.Names = append(p.Names, 0) },
		func(p *api.Branch) { p.Kids = append(p.Kids, api.Branch{}) },
		func(p *api.Branch) { p.Kids = append([]api.Branch{{}}, p.Kids...) },
		func(p *api.Branch) {
			if len(p.Names) > 0 {
				p.Names[len(p.Names)-1]++
			} else {
				p.Names = []int{1}
			}
		},
	}
	for n := range every(&b) {
		for _, way := range ways {
			c := copied(b)
			way(every(&c)[n])
			look(n, c)
		}
	}
}

func TestSameOfOneOtherThing(t *testing.T) {
	for n := 1; n <= 5; n++ {
		for _, shape := range shapes(n) {
			b := told(shape)
			if !tree.Same(b, copied(b)) {
				t.Fatal(b)
			}
			spoilt(b, func(n int, c api.Branch) {
				if tree.Same(b, c) || tree.Same(c, b) {
					t.Fatalf("%v is as %v", c, b)
				}
			})
		}
	}
}

func TestSameOfListsThatAreEmpty(t *testing.T) {
	a := api.Branch{Kids: []api.Branch{{}, {Names: []int{}}}}
	b := api.Branch{Names: []int{}, Kids: []api.Branch{{Kids: []api.Branch{}}, {}}}
	if !tree.Same(a, b) || !tree.Same(b, a) || !tree.Same(api.Branch{}, api.Branch{Names: []int{}, Kids: []api.Branch{}}) {
		t.Fatal("an empty list is not as one that is nil")
	}
	if tree.Same(api.Branch{Names: []int{1, 2}}, api.Branch{Names: []int{2, 1}}) {
		t.Fatal("names in another order are the same")
	}
}

// nil and zero trees

func TestTreesThatNoCallMade(t *testing.T) {
	for _, r := range []*tree.Tree{nil, new(tree.Tree)} {
		if r.Len() != 0 {
			t.Fatal(r.Len())
		}
		for _, n := range append([]int{0, 1}, wrongNumbers...) {
			checkNothing(t, r, n)
			if w := r.Within(n); w != -1 {
				t.Fatal(n, w)
			}
		}
	}
}

// P6.5, P6.6

func TestBackAndAll(t *testing.T) {
	for n := 1; n <= 6; n++ {
		for _, shape := range shapes(n) {
			b := told(shape)
			r := tree.Make(b)
			ups := make([]int, r.Len())
			for k, p := range every(&b) {
				if !tree.Same(r.Branch(k), *p) {
					t.Fatal(b, k)
				}
				for _, kid := range r.Kids(k) {
					ups[kid]++
				}
				checkMeetsOnce(t, r, k)
			}
			if ups[0] != 0 || slices.ContainsFunc(ups[1:], func(c int) bool { return c != 1 }) {
				t.Fatal(b, ups)
			}
		}
	}
}

// checkMeetsOnce: a walk from n meets no node twice, and each one's parent ahead of it.
func checkMeetsOnce(t *testing.T, r *tree.Tree, n int) {
	t.Helper()
	met := map[int]int{}
	for i, k := range r.Walk(n) {
		knot, ok := r.Knot(k)
		if _, again := met[k]; again || !ok {
			t.Fatal(n, k)
		}
		if _, up := met[knot.Up]; !up && k != n {
			t.Fatal(n, k)
		}
		met[k] = i
	}
}

// P1, P2: what is handed in and out

func TestNothingHandedInIsKeptOrChanged(t *testing.T) {
	for n := 1; n <= 5; n++ {
		for _, shape := range shapes(n) {
			b := told(shape)
			was := copied(b)
			r := tree.Make(b)
			tree.Right(b)
			tree.Same(b, was)
			if !reflect.DeepEqual(copied(b), was) {
				t.Fatal(b)
			}
			for _, p := range every(&b) {
				clear(p.Names)
				p.Kind, p.Mark, p.From, p.To = 1, 1, 1, 1
			}
			clear(b.Kids)
			if !reflect.DeepEqual(copied(r.Branch(0)), was) {
				t.Fatal(r.Branch(0))
			}
		}
	}
}

func TestAnswersAreTheCallersOwn(t *testing.T) {
	b := told(shapes(6)[17])
	r := tree.Make(b)
	for n := range r.Len() {
		spoil(r.Names(n), r.Kids(n), r.Walk(n), r.Path(n))
		one, other := r.Branch(n), r.Branch(n)
		was := copied(other)
		for _, p := range every(&one) {
			spoil(p.Names)
			// what an append could write over
			_ = append(p.Names, -9, -9, -9)
			_ = append(p.Kids, api.Branch{Kind: -9}, api.Branch{Kind: -9})
			p.Kind = -9
		}
		clear(one.Kids)
		if !reflect.DeepEqual(copied(other), was) {
			t.Fatal(n, other)
		}
	}
	all := parts(b)
	for n, p := range all {
		if k, _ := r.Knot(n); k != p.knot() || !slices.Equal(r.Names(n), p.branch.Names) || !slices.Equal(r.Walk(n), p.all) {
			t.Fatal(n)
		}
		if !slices.Equal(r.Kids(n), p.kids) || !slices.Equal(r.Path(n), p.path) || !tree.Same(r.Branch(n), p.branch) {
			t.Fatal(n)
		}
	}
}

func spoil(lists ...[]int) {
	for _, l := range lists {
		for i := range l {
			l[i] = -9
		}
		_ = append(l, -9, -9, -9)
	}
}

// P1: great ones

// chain is a branch of deep parts, each the kid of the one ahead of it.
func chain(deep int) api.Branch {
	b := api.Branch{Kind: deep, To: 1, Names: []int{0}}
	for k := deep - 1; k >= 1; k-- {
		b = api.Branch{Kind: k, To: 1, Kids: []api.Branch{b}}
	}
	return b
}

func TestDeepOnes(t *testing.T) {
	const deep = 1 << 16
	b := chain(deep)
	r := tree.Make(b)
	last := deep - 1
	if r.Len() != deep || len(r.Path(last)) != deep || len(r.Walk(0)) != deep || r.Within(0) != last {
		t.Fatal(r.Len(), len(r.Path(last)), len(r.Walk(0)), r.Within(0))
	}
	for n := range deep {
		if k, _ := r.Knot(n); r.Deep(n) != n+1 || k.Kind != n+1 {
			t.Fatal(n, r.Deep(n), k)
		}
	}
	if !tree.Right(b) || !tree.Same(b, r.Branch(0)) || tree.Same(b, chain(deep-1)) {
		t.Fatal("not as it was")
	}
	end := b
	for range deep - 1 {
		end = end.Kids[0]
	}
	end.Names[0] = 1
	if tree.Right(b) || tree.Same(b, r.Branch(0)) {
		t.Fatal("the last one is not asked")
	}
}

func TestWideOnes(t *testing.T) {
	const wide = 1 << 18
	b := api.Branch{To: wide}
	for k := range wide {
		b.Kids = append(b.Kids, api.Branch{From: k, To: k + 1, Names: []int{k}})
	}
	r := tree.Make(b)
	if r.Len() != wide+1 || len(r.Kids(0)) != wide || len(r.Walk(0)) != wide+1 || r.Within(wide-1) != wide || r.Within(0) != 1 {
		t.Fatal(r.Len(), len(r.Kids(0)), len(r.Walk(0)), r.Within(wide-1), r.Within(0))
	}
	if !slices.Equal(r.Walk(wide/2), []int{wide / 2}) || !tree.Right(b) || !tree.Same(b, r.Branch(0)) {
		t.Fatal("not as it was")
	}
	b.Kids[wide-1].To++
	if tree.Right(b) || tree.Same(b, r.Branch(0)) {
		t.Fatal("the last one is not asked")
	}
}
