package graph_test

import (
	"math"
	"math/rand/v2"
	"slices"
	"testing"

	"oriel/api"
	"oriel/graph"
	"oriel/match"
)

// P15.3: told by hand.
func TestCarry(t *testing.T) {
	g := api.Graph{Edge: []int{0, 0, 2, 2, 4}, Via: []int{-1, -1, -1, 0, -1}, Links: pairs(0, 2)}
	for _, x := range []struct {
		m     []int
		edges []int
		links []api.Pair
	}{
		{[]int{0, 1, 2, 3, 4}, []int{0, 0, 2, 2, 4}, pairs(0, 2)},
		{[]int{4, 3, 2, 1, 0}, []int{0, 2, 2, 4, 4}, pairs(2, 4)},
		{[]int{0, 1, 2, 3, -1}, []int{0, 0, 2, 2}, pairs(0, 2)},
		{[]int{0, -1, 2, -1, -1}, []int{0, -1, 2}, pairs(0, 2)},
		{[]int{7, 5, 2, -1, 0}, []int{0, -1, 2, -1, -1, 7, -1, 7}, pairs(2, 7)},
	} {
		edges, links, ok := graph.Carry(g, x.m)
		if !ok || !slices.Equal(edges, x.edges) || !slices.Equal(links, x.links) {
			t.Errorf("%v: %v %v %v", x.m, edges, links, ok)
		}
	}
	for _, m := range [][]int{
		nil,
		{0, 1, 2, 3},
		{0, 1, 2, 3, 4, 5},
		{0, 1, 2, 3, 4, -1},
		{0, 1, 2, 3, -2},
		{0, 1, 2, 3, math.MinInt},
		{0, 1, 2, 3, api.MaxBytes},
		{0, 1, 2, 3, math.MaxInt},
		{0, 1, 2, 3, 3},
		{0, 0, 2, 3, 4},
		{-1, 1, 2, 3, 4},
		{-1, -1, 2, 3, 4},
		{0, 1, -1, 3, 4},
		{0, 1, -1, -1, 4},
		{-1, -1, -1, -1, -1},
	} {
		if edges, links, ok := graph.Carry(g, m); ok || len(edges) != 0 || len(links) != 0 {
			t.Errorf("%v: %v %v %v", m, edges, links, ok)
		}
		if graph.Carries(g, g, m) {
			t.Errorf("%v carries", m)
		}
	}
}

// P15.3: nothing, the greatest place, links in any order, and graphs that are not right.
func TestCarryEdges(t *testing.T) {
	if edges, links, ok := graph.Carry(api.Graph{}, nil); !ok || len(edges) != 0 || len(links) != 0 {
		t.Error(edges, links, ok)
	}
	if _, _, ok := graph.Carry(api.Graph{Links: pairs(0, 1)}, nil); ok {
		t.Error("a link of what is not there")
	}
	one := api.Graph{Edge: []int{0}}
	if edges, _, ok := graph.Carry(one, []int{-1}); !ok || len(edges) != 0 {
		t.Error(edges, ok)
	}
	edges, _, ok := graph.Carry(one, []int{api.MaxBytes - 1})
	if !ok || len(edges) != api.MaxBytes || edges[api.MaxBytes-1] != api.MaxBytes-1 || edges[0] != -1 || edges[api.MaxBytes-2] != -1 {
		t.Error(len(edges), ok)
	}
	for _, g := range []api.Graph{
		{Edge: []int{-1}}, {Edge: []int{1}}, {Edge: []int{math.MaxInt}}, {Edge: []int{math.MinInt}},
		{Edge: []int{0}, Links: pairs(0, 1)}, {Edge: []int{0}, Links: pairs(-1, 0)}, {Edge: []int{0}, Links: pairs(math.MinInt, math.MaxInt)},
	} {
		if edges, links, ok := graph.Carry(g, []int{0}); ok || len(edges) != 0 || len(links) != 0 {
			t.Error(g, edges, links, ok)
		}
	}
	// An edge of what is let go need not be there.
	if edges, _, ok := graph.Carry(api.Graph{Edge: []int{0, 77}}, []int{3, -1}); !ok || !slices.Equal(edges, []int{-1, -1, -1, 3}) {
		t.Error(edges, ok)
	}
	g := api.Graph{Edge: []int{0, 1, 2}, Links: pairs(2, 1, 1, 2, 0, 2, 0, 0)}
	if _, links, ok := graph.Carry(g, []int{9, 5, 7}); !ok || !slices.Equal(links, pairs(5, 7, 7, 9)) {
		t.Error(links, ok)
	}
}

// P15.4: what carries, and one thing each by which it does not.
func TestCarries(t *testing.T) {
	g := api.Graph{Edge: []int{0, 0, 2, 2}, Via: []int{-1, 0, -1, -1}, Links: pairs(0, 2)}
	m := []int{5, 1, 2, 4}
	h := func() api.Graph {
		return api.Graph{Edge: []int{0, 5, 2, 2, 2, 5, 0}, Via: []int{-1, 3, -1, 4, 7, -1, 9}, Links: pairs(2, 5)}
	}
	if !graph.Carries(g, h(), m) {
		t.Fatal("not carried")
	}
	for name, x := range map[string]struct {
		spoil func(h *api.Graph)
		want  bool
	}{
		"other vias":              {func(h *api.Graph) { h.Via = nil }, true},
		"another edge besides":    {func(h *api.Graph) { h.Edge[0], h.Edge[3] = 3, -1 }, true},
		"another edge behind all": {func(h *api.Graph) { h.Edge[6] = math.MaxInt }, true},
		"less besides":            {func(h *api.Graph) { h.Edge = h.Edge[:6] }, true},
		"one occurrence too few":  {func(h *api.Graph) { h.Edge = h.Edge[:5] }, false},
		"no occurrences":          {func(h *api.Graph) { h.Edge = nil }, false},
		"another edge":            {func(h *api.Graph) { h.Edge[4] = 5 }, false},
		"an edge that is none":    {func(h *api.Graph) { h.Edge[5] = -1 }, false},
		"a link less":             {func(h *api.Graph) { h.Links = nil }, false},
		"a link more":             {func(h *api.Graph) { h.Links = pairs(0, 2, 2, 5) }, false},
		"a link more behind":      {func(h *api.Graph) { h.Links = pairs(2, 5, 5, 6) }, false},
		"another link":            {func(h *api.Graph) { h.Links = pairs(2, 6) }, false},
	} {
		to := h()
		x.spoil(&to)
		if graph.Carries(g, to, m) != x.want {
			t.Error(name)
		}
	}
	if graph.Carries(api.Graph{Edge: []int{0}}, api.Graph{Edge: []int{0}}, []int{1}) {
		t.Error("to behind all")
	}
	if graph.Carries(api.Graph{}, h(), nil) {
		t.Error("links that nothing carries")
	}
	if !graph.Carries(api.Graph{}, api.Graph{Edge: []int{4}}, nil) || !graph.Carries(api.Graph{}, api.Graph{}, []int{}) {
		t.Error("nothing is carried anywhere")
	}
}

// P15.5: told by hand.
func TestThenAndNew(t *testing.T) {
	for _, x := range []struct{ got, want []int }{
		{graph.Then([]int{2, -1, 0, 1, 3, 5}, []int{7, -1, 9}), []int{9, -1, 7, -1, -1, -1}},
		{graph.Then([]int{-2, math.MinInt, math.MaxInt, 0}, []int{-5}), []int{-1, -1, -1, -5}},
		{graph.Then(nil, []int{1}), nil},
		{graph.Then([]int{0, 1}, nil), []int{-1, -1}},
		{graph.New(5, []int{3, -1, 1, 1, 9}), []int{0, 2, 4}},
		{graph.New(3, nil), []int{0, 1, 2}},
		{graph.New(3, []int{2, 1, 0}), nil},
		{graph.New(3, []int{3, -1, math.MinInt, math.MaxInt}), []int{0, 1, 2}},
		{graph.New(0, nil), nil},
		{graph.New(-1, []int{-1}), nil},
		{graph.New(math.MinInt, nil), nil},
		{graph.New(api.MaxBytes+1, nil), nil},
		{graph.New(math.MaxInt, []int{1}), nil},
	} {
		if !slices.Equal(x.got, x.want) {
			t.Errorf("%v, not %v", x.got, x.want)
		}
	}
	if l := graph.New(api.MaxBytes, []int{1}); len(l) != api.MaxBytes-1 || l[0] != 0 || l[1] != 2 || l[len(l)-1] != api.MaxBytes-1 {
		t.Error(len(l))
	}
}

// madeMap is a map of g's occurrences that carries it, to places below n+more.
func madeMap(rng *rand.Rand, g api.Graph, more int) []int {
	n := len(g.Edge)
	m := rng.Perm(n + more)[:n]
	for i := range m {
		linked := slices.ContainsFunc(g.Links, func(p api.Pair) bool { return p.A == i || p.B == i })
		if g.Edge[i] != i && rng.IntN(4) == 0 || !linked && len(graph.Uses(g, i)) == 0 && rng.IntN(2) == 0 {
			m[i] = -1
		}
	}
	return m
}

// carryByWords is what Carry should tell, word by word.
func carryByWords(g api.Graph, m []int) ([]int, []api.Pair, bool) {
	if len(m) != len(g.Edge) {
		return nil, nil, false
	}
	is := func(x int) bool { return 0 <= x && x < len(m) && m[x] >= 0 }
	most := -1
	for i, x := range m {
		if x < -1 || x >= api.MaxBytes || x >= 0 && (slices.Contains(m[:i], x) || !is(g.Edge[i])) {
			return nil, nil, false
		}
		most = max(most, x)
	}
	var links []api.Pair
	for _, p := range g.Links {
		if !is(p.A) || !is(p.B) {
			return nil, nil, false
		}
		links = append(links, api.Pair{A: m[p.A], B: m[p.B]})
	}
	if most > 100 { // the tests ask for no more than for what such a place is
		return nil, nil, false
	}
	var edges []int
	for place := 0; place <= most; place++ {
		edge := -1
		if i := slices.Index(m, place); i >= 0 {
			edge = m[g.Edge[i]]
		}
		edges = append(edges, edge)
	}
	return edges, match.Links(links...), true
}

// P15.3, P15.4: made graphs and maps, some with a thing changed.
func TestCarryMade(t *testing.T) {
	rng := rand.New(rand.NewPCG(15, 3))
	met := [2]int{}
	for range 8000 {
		g, _ := madeGraph(rng, 1+rng.IntN(10))
		m := madeMap(rng, g, rng.IntN(4))
		if rng.IntN(3) == 0 {
			g = slipped(rng, g)
		}
		if rng.IntN(3) == 0 {
			m[rng.IntN(len(m))] = []int{-2, -1, rng.IntN(12), rng.IntN(12), api.MaxBytes}[rng.IntN(5)]
		}
		edges, links, ok := carryByWords(g, m)
		gotEdges, gotLinks, got := graph.Carry(g, m)
		if got != ok || !slices.Equal(edges, gotEdges) || !slices.Equal(links, gotLinks) {
			t.Fatal(g, m, gotEdges, gotLinks, got)
		}
		if !ok {
			met[0]++
			continue
		}
		met[1]++
		h := api.Graph{Edge: slices.Clone(edges), Links: slices.Clone(links)}
		for i, e := range h.Edge {
			if e < 0 {
				h.Edge[i] = slip(rng, 5)
			}
		}
		h.Edge = append(h.Edge, slip(rng, 5))
		if !graph.Carries(g, h, m) {
			t.Fatal(g, h, m)
		}
		at := rng.IntN(len(h.Edge))
		h.Edge[at] = slip(rng, len(h.Edge))
		if graph.Carries(g, h, m) != (at >= len(edges) || edges[at] < 0 || edges[at] == h.Edge[at]) {
			t.Fatal(g, h, m, at)
		}
	}
	if met[0] < 1000 || met[1] < 1000 {
		t.Fatal(met)
	}
}

// P15.5: made maps.
func TestThenAndNewMade(t *testing.T) {
	rng := rand.New(rand.NewPCG(15, 4))
	list := func() []int {
		l := make([]int, rng.IntN(8))
		for i := range l {
			l[i] = rng.IntN(10) - 2
		}
		return l
	}
	for range 2000 {
		m, k := list(), list()
		then := graph.Then(m, k)
		if len(then) != len(m) {
			t.Fatal(m, k, then)
		}
		for i, x := range m {
			want := -1
			for at, y := range k {
				if at == x {
					want = y
				}
			}
			if then[i] != want {
				t.Fatal(m, k, then)
			}
		}
		n := rng.IntN(12) - 2
		var want []int
		for x := range max(n, 0) {
			if !slices.Contains(m, x) {
				want = append(want, x)
			}
		}
		if got := graph.New(n, m); !slices.Equal(got, want) {
			t.Fatal(n, m, got, want)
		}
	}
}

// P15.6: a right graph is carried to itself by the map that changes nothing.
func TestCarriedToItself(t *testing.T) {
	rng := rand.New(rand.NewPCG(15, 5))
	self := func(g api.Graph) {
		m := make([]int, len(g.Edge))
		for i := range m {
			m[i] = i
		}
		if !graph.Carries(g, g, m) {
			t.Fatal(g)
		}
	}
	for _, texts := range projects {
		_, g := known(t, texts)
		self(g)
	}
	for range 1000 {
		g, _ := madeGraph(rng, 1+rng.IntN(20))
		self(g)
	}
}

// P15.7: what is carried, and carried on, is as Then carries it.
func TestCarriedOn(t *testing.T) {
	rng := rand.New(rand.NewPCG(15, 6))
	// grown is what g is carried to by m, with what is nowhere in m declaring itself.
	grown := func(g api.Graph, m []int) api.Graph {
		edges, links, ok := graph.Carry(g, m)
		if !ok {
			t.Fatal(g, m)
		}
		for _, x := range graph.New(len(edges), m) {
			edges[x] = x
		}
		return api.Graph{Edge: edges, Links: links}
	}
	for range 3000 {
		g, _ := madeGraph(rng, 1+rng.IntN(10))
		m := madeMap(rng, g, rng.IntN(4))
		h := grown(g, m)
		k := madeMap(rng, h, rng.IntN(4))
		i := grown(h, k)
		if !graph.Carries(g, h, m) || !graph.Carries(h, i, k) {
			t.Fatal("not carried")
		}
		if both := graph.Then(m, k); !graph.Carries(g, i, both) {
			t.Fatal(g, m, k, both)
		}
	}
}
