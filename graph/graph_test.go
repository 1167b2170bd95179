package graph_test

import (
	"math"
	"math/rand/v2"
	"slices"
	"strings"
	"testing"

	"oriel/api"
	"oriel/graph"
	"oriel/match"
	"oriel/resolve"
	"oriel/unit"
)

// pairs is pairs told as their numbers, one behind the other.
func pairs(l ...int) []api.Pair {
	var all []api.Pair
	for i := 0; i+1 < len(l); i += 2 {
		all = append(all, api.Pair{A: l[i], B: l[i+1]})
	}
	return all
}

// occs is occurrences told as letters, each for a space; a great one declares.
func occs(s string) []api.Occ {
	var l []api.Occ
	for i, c := range strings.Fields(s) {
		space := strings.Index("vctsgf", strings.ToLower(c)) + 1
		l = append(l, api.Occ{At: 2 * i, End: 2*i + 1, Space: space, Decl: c != strings.ToLower(c)})
	}
	return l
}

// projects are texts, one for each file, in which all names are bound.
var projects = [][]string{
	{""},
	{"val x = 1 val y = x"},
	{"signature S = sig val x : 'a end structure M : S = struct val x = 1 end val y = M.x"},
	{"structure M = struct val x = 1 end open M val y = 2 val z = x", "val u = x open M val v = x"},
	{"signature S = sig type t val a : t end functor F (X : S) = struct open X val b = a end structure A = struct type t = int val a = 1 end " +
		"structure B = F (A) val c = B.b", "structure C : S = A signature T = sig include S end structure D : T = C"},
	{"datatype 'a list = Nil | Cons of 'a list fun f x = case x of Nil => 1 | Cons y => f y local val k = 1 in val l = k end"},
}

// known is the unit of a project, and its graph.
func known(t *testing.T, texts []string) (*unit.Unit, api.Graph) {
	t.Helper()
	var files []api.File
	for i, text := range texts {
		text = "type int = int " + text
		if i == 0 {
			text = "datatype int = Int " + text
		}
		files = append(files, api.File{Name: string(rune('a' + i)), Text: text})
	}
	u, fault := unit.Load(files...)
	if fault.Err != api.OK {
		t.Fatal(texts, fault)
	}
	g, fault := resolve.Resolve(u)
	if fault.Err != api.OK {
		t.Fatal(texts, fault)
	}
	return u, g
}

// copied is g in memory of its own.
func copied(g api.Graph) api.Graph {
	return api.Graph{Edge: slices.Clone(g.Edge), Links: slices.Clone(g.Links), Via: slices.Clone(g.Via)}
}

// same says whether two graphs have the same members.
func same(a, b api.Graph) bool {
	return slices.Equal(a.Edge, b.Edge) && slices.Equal(a.Links, b.Links) && slices.Equal(a.Via, b.Via)
}

// The chapter's example.
func TestExample(t *testing.T) {
	g := api.Graph{Edge: []int{0, 0, 2}, Via: []int{-1, -1, -1}}
	l := occs("V v V")
	if !graph.Right(g, l) {
		t.Fatal("not right")
	}
	if got := graph.Family(g, 1); !slices.Equal(got, []int{0, 1}) {
		t.Fatal(got)
	}
	if got := graph.Spare(g, l); !slices.Equal(got, []int{2}) {
		t.Fatal(got)
	}
}

// P15.1: graphs that are right, and each with one thing that makes it wrong.
func TestRight(t *testing.T) {
	l := occs("V v S V s v V S")
	right := func() api.Graph {
		return api.Graph{Edge: []int{0, 0, 2, 3, 2, 3, 6, 7}, Via: []int{-1, 0, -1, -1, 5, -1, -1, -1}, Links: pairs(0, 3, 0, 6, 2, 7, 3, 6)}
	}
	if !graph.Right(right(), l) {
		t.Fatal("not right")
	}
	if !graph.Right(api.Graph{}, nil) || !graph.Right(api.Graph{Edge: []int{}, Via: []int{}}, []api.Occ{}) {
		t.Fatal("nothing at all is not right")
	}
	for name, spoil := range map[string]func(g *api.Graph){
		"an edge less":                 func(g *api.Graph) { g.Edge = g.Edge[:7] },
		"an edge more":                 func(g *api.Graph) { g.Edge = append(g.Edge, 0) },
		"a via less":                   func(g *api.Graph) { g.Via = g.Via[:7] },
		"a via more":                   func(g *api.Graph) { g.Via = append(g.Via, -1) },
		"both more":                    func(g *api.Graph) { g.Edge, g.Via = append(g.Edge, 0), append(g.Via, -1) },
		"both less":                    func(g *api.Graph) { g.Edge, g.Via, g.Links = g.Edge[:7], g.Via[:7], nil },
		"no edges":                     func(g *api.Graph) { g.Edge = nil },
		"no vias":                      func(g *api.Graph) { g.Via = nil },
		"an edge that is none":         func(g *api.Graph) { g.Edge[1] = -1 },
		"an edge far below":            func(g *api.Graph) { g.Edge[1] = math.MinInt },
		"an edge behind all":           func(g *api.Graph) { g.Edge[1] = 8 },
		"an edge far above":            func(g *api.Graph) { g.Edge[1] = math.MaxInt },
		"an edge that uses":            func(g *api.Graph) { g.Edge[1] = 5 },
		"an edge of itself, that uses": func(g *api.Graph) { g.Edge[1] = 1 },
		"an edge of another space":     func(g *api.Graph) { g.Edge[1] = 2 },
		"one that declares another":    func(g *api.Graph) { g.Edge[3] = 0 },
		"a via below -1":               func(g *api.Graph) { g.Via[1] = -2 },
		"a via where one declares":     func(g *api.Graph) { g.Via[3] = 0 },
		"a link twice":                 func(g *api.Graph) { g.Links = pairs(0, 3, 0, 3) },
		"links that fall":              func(g *api.Graph) { g.Links = pairs(0, 6, 0, 3) },
		"links that fall by A":         func(g *api.Graph) { g.Links = pairs(3, 6, 0, 6) },
		"a link told the other way":    func(g *api.Graph) { g.Links = pairs(3, 0) },
		"a link with itself":           func(g *api.Graph) { g.Links = pairs(3, 3) },
		"a link of one that uses":      func(g *api.Graph) { g.Links = pairs(0, 5) },
		"a link of another that uses":  func(g *api.Graph) { g.Links = pairs(1, 3) },
		"a link of two spaces":         func(g *api.Graph) { g.Links = pairs(0, 2) },
		"a link from below all":        func(g *api.Graph) { g.Links = pairs(-1, 3) },
		"a link to behind all":         func(g *api.Graph) { g.Links = pairs(0, 8) },
	} {
		g := right()
		spoil(&g)
		if graph.Right(g, l) {
			t.Error(name)
		}
	}
	if graph.Right(right(), l[:7]) || graph.Right(right(), nil) || graph.Right(api.Graph{}, l) {
		t.Error("of other occurrences")
	}
	g := right()
	g.Via[1], g.Via[5] = math.MaxInt, 9 // there is no telling how many opens there are
	if !graph.Right(g, l) {
		t.Error("great vias")
	}
}

// P15.1: what Resolve tells of projects is right.
func TestRightOfProjects(t *testing.T) {
	for _, texts := range projects {
		u, g := known(t, texts)
		if !graph.Right(g, u.Occs()) {
			t.Fatal(texts)
		}
	}
}

// P15.1, P15.2: told by hand.
func TestAsked(t *testing.T) {
	g := api.Graph{Edge: []int{0, 0, 2, 3, 2, 0, 6, 3}, Via: []int{-1, 2, -1, -1, 0, 2, -1, 0}, Links: pairs(0, 3, 3, 6)}
	l := occs("V v S V s v V v")
	for _, x := range []struct {
		got, want []int
	}{
		{graph.Uses(g, 0), []int{1, 5}},
		{graph.Uses(g, 2), []int{4}},
		{graph.Uses(g, 3), []int{7}},
		{graph.Uses(g, 6), nil},
		{graph.Uses(g, 1), nil},
		{graph.Uses(g, -1), nil},
		{graph.Uses(g, 8), nil},
		{graph.Uses(g, math.MinInt), nil},
		{graph.Through(g, 0), []int{4, 7}},
		{graph.Through(g, 2), []int{1, 5}},
		{graph.Through(g, 1), nil},
		{graph.Through(g, -1), nil},
		{graph.Through(g, math.MinInt), nil},
		{graph.Through(g, math.MaxInt), nil},
		{graph.Family(g, 0), []int{0, 1, 3, 5, 6, 7}},
		{graph.Family(g, 7), []int{0, 1, 3, 5, 6, 7}},
		{graph.Family(g, 6), []int{0, 1, 3, 5, 6, 7}},
		{graph.Family(g, 2), []int{2, 4}},
		{graph.Family(g, 4), []int{2, 4}},
		{graph.Family(g, -1), nil},
		{graph.Family(g, 8), nil},
		{graph.Family(g, math.MaxInt), nil},
		{graph.Spare(g, l), nil},
		{graph.Spare(api.Graph{Edge: g.Edge, Via: g.Via}, l), []int{6}},
		{graph.Spare(api.Graph{Edge: []int{0, 1, 2, 3, 2, 5, 6, 7}, Links: pairs(3, 3, 6, 0)}, l), []int{3}},
		{graph.Spare(api.Graph{Edge: []int{0, 1, 2, 3, 4, 5, 6, 7}}, l), []int{0, 2, 3, 6}},
		{graph.Spare(api.Graph{}, l), []int{0, 2, 3, 6}},
		{graph.Spare(g, nil), nil},
		{graph.Spare(g, l[:1]), nil},
		{graph.Spare(api.Graph{Edge: []int{2, 1, 0}}, occs("V V V")), []int{1}},
		{graph.Family(api.Graph{}, 0), nil},
		{graph.Uses(api.Graph{}, 0), nil},
		{graph.Through(api.Graph{}, 0), nil},
	} {
		if !slices.Equal(x.got, x.want) {
			t.Errorf("%v, not %v", x.got, x.want)
		}
	}
}

// P15.2: edges and links of any numbers, which no right graph has.
func TestFamilyOfAnyNumbers(t *testing.T) {
	g := api.Graph{Edge: []int{-1, 9, math.MaxInt, 1, -1, math.MinInt, 9}, Links: pairs(math.MaxInt, 9, 9, -7, 100, -7, 100, math.MinInt, 5, 5)}
	for occ, want := range [][]int{{0, 4}, {1, 2, 5, 6}, {1, 2, 5, 6}, {3}, {0, 4}, {1, 2, 5, 6}, {1, 2, 5, 6}} {
		if got := graph.Family(g, occ); !slices.Equal(got, want) {
			t.Errorf("%d: %v, not %v", occ, got, want)
		}
	}
	if got := graph.Uses(g, 9); !slices.Equal(got, []int{1, 6}) {
		t.Error(got)
	}
}

// madeGraph is a right graph, and its occurrences.
func madeGraph(rng *rand.Rand, n int) (api.Graph, []api.Occ) {
	var l []api.Occ
	g := api.Graph{}
	var decls []int
	spaces := 1 + rng.IntN(3)
	for i := range n {
		x := api.Occ{At: i, End: i + 1, Space: 1 + rng.IntN(spaces), Decl: true}
		edge, via := i, -1
		if k := rng.IntN(len(decls) + 1); k < len(decls) && rng.IntN(3) > 0 {
			edge = decls[k]
			x.Decl, x.Space, via = false, l[edge].Space, rng.IntN(4)-1
		} else {
			decls = append(decls, i)
		}
		l, g.Edge, g.Via = append(l, x), append(g.Edge, edge), append(g.Via, via)
	}
	for range rng.IntN(n + 1) {
		a, b := decls[rng.IntN(len(decls))], decls[rng.IntN(len(decls))]
		if l[a].Space == l[b].Space {
			g.Links = append(g.Links, api.Pair{A: a, B: b})
		}
	}
	g.Links = match.Links(g.Links...)
	return g, l
}

// slip is a number that some member of g, or of a list of numbers, is changed to.
func slip(rng *rand.Rand, n int) int {
	return []int{-2, -1, n, n + 1, math.MaxInt, math.MinInt, api.MaxBytes, api.MaxBytes - 1, rng.IntN(n + 1), rng.IntN(n + 1)}[rng.IntN(10)]
}

// slipped is g with one thing changed.
func slipped(rng *rand.Rand, g api.Graph) api.Graph {
	g = copied(g)
	n := len(g.Edge)
	switch rng.IntN(5) {
	case 0:
		g.Edge[rng.IntN(n)] = slip(rng, n)
	case 1:
		g.Via[rng.IntN(n)] = slip(rng, n)
	case 2:
		g.Links = slices.Insert(g.Links, rng.IntN(len(g.Links)+1), api.Pair{A: slip(rng, n), B: slip(rng, n)})
	case 3:
		if len(g.Links) > 0 {
			i := rng.IntN(len(g.Links))
			g.Links[i].A, g.Links[i].B = g.Links[i].B, g.Links[i].A
		}
	case 4:
		if len(g.Links) > 1 {
			i := rng.IntN(len(g.Links) - 1)
			g.Links[i], g.Links[i+1] = g.Links[i+1], g.Links[i]
		}
	}
	return g
}

// rightByWords says once more whether g is right, word by word.
func rightByWords(g api.Graph, l []api.Occ) bool {
	n := len(l)
	if len(g.Edge) != n || len(g.Via) != n {
		return false
	}
	for i := range n {
		e := g.Edge[i]
		if e < 0 || e >= n || !l[e].Decl || l[e].Space != l[i].Space || l[i].Decl && e != i {
			return false
		}
		if g.Via[i] < -1 || l[i].Decl && g.Via[i] != -1 {
			return false
		}
	}
	for _, p := range g.Links {
		if p.A < 0 || p.B < 0 || p.A >= n || p.B >= n || !l[p.A].Decl || !l[p.B].Decl || l[p.A].Space != l[p.B].Space {
			return false
		}
	}
	return slices.Equal(g.Links, match.Links(g.Links...))
}

// P15.1, P15.2, P15.8: made graphs, right and with a thing changed.
func TestMade(t *testing.T) {
	rng := rand.New(rand.NewPCG(15, 1))
	met := [2]int{}
	for range 6000 {
		g, l := madeGraph(rng, 1+rng.IntN(12))
		if !graph.Right(g, l) {
			t.Fatal(g, l)
		}
		if rng.IntN(3) > 0 {
			g = slipped(rng, g)
		}
		right := rightByWords(g, l)
		if graph.Right(g, l) != right {
			t.Fatal(g, l, right)
		}
		if right {
			met[1]++
		} else {
			met[0]++
		}
		held(t, g, l)
	}
	if met[0] < 1000 || met[1] < 1000 {
		t.Fatal(met)
	}
}

// held holds what is asked of g against what is found by going over all, each time.
func held(t *testing.T, g api.Graph, l []api.Occ) {
	n := len(g.Edge)
	families := make([]int, n)
	for occ := -2; occ < n+2; occ++ {
		var family, uses, through []int
		for x := range n {
			if 0 <= occ && occ < n && match.Linked(g.Links, g.Edge[x], g.Edge[occ]) {
				family = append(family, x)
				families[x]++
			}
			if g.Edge[x] == occ && x != occ {
				uses = append(uses, x)
			}
			if occ >= 0 && g.Via[x] == occ {
				through = append(through, x)
			}
		}
		if got := graph.Family(g, occ); !slices.Equal(got, family) {
			t.Fatal(g, occ, got, family)
		}
		if got := graph.Uses(g, occ); !slices.Equal(got, uses) {
			t.Fatal(g, occ, got, uses)
		}
		if got := graph.Through(g, occ); !slices.Equal(got, through) {
			t.Fatal(g, occ, got, through)
		}
	}
	for x := range n { // x is in its own family, and as often in one as that has members: families part all
		if families[x] != len(graph.Family(g, x)) || !slices.Contains(graph.Family(g, x), x) {
			t.Fatal(g, x, families)
		}
	}
	var spare []int
	for x, o := range l {
		needed := slices.ContainsFunc(g.Links, func(p api.Pair) bool { return p.A != p.B && (p.A == x || p.B == x) })
		for y, e := range g.Edge {
			needed = needed || e == x && y != x
		}
		if o.Decl && !needed {
			spare = append(spare, x)
		}
	}
	if got := graph.Spare(g, l); !slices.Equal(got, spare) {
		t.Fatal(g, l, got, spare)
	}
}

// P15.2: what is linked in a project is of one family, and of others nothing is.
func TestFamilyOfProject(t *testing.T) {
	u, g := known(t, []string{"signature S = sig val x : 'a end structure M : S = struct val x = 1 end val y = M.x"})
	for occ, name := range u.Names() {
		var want []int
		for other, its := range u.Names() {
			if name == its { // there each name is of one family
				want = append(want, other)
			}
		}
		if got := graph.Family(g, occ); !slices.Equal(got, want) && name != "int" {
			t.Fatal(occ, name, got, want)
		}
	}
}

// P1: very many occurrences, links that lead far, and numbers that many links have.
func TestManyLinks(t *testing.T) {
	n := 200_000
	g := api.Graph{Edge: make([]int, n), Via: make([]int, n)}
	var chain, star []api.Pair
	for i := range n {
		g.Edge[i], g.Via[i] = i, -1
		if i > 0 {
			chain = append(chain, api.Pair{A: i - 1, B: i})
			star = append(star, api.Pair{A: 0, B: i})
		}
	}
	for _, links := range [][]api.Pair{chain, star} {
		g.Links = links
		for _, occ := range []int{0, n / 2, n - 1} {
			if got := graph.Family(g, occ); len(got) != n || !slices.IsSorted(got) {
				t.Fatal(occ, len(got))
			}
		}
		m := make([]int, n)
		for i := range n {
			m[i] = n - 1 - i
		}
		edges, carried, ok := graph.Carry(g, m)
		if !ok || len(edges) != n || len(carried) != len(links) {
			t.Fatal(ok, len(edges), len(carried))
		}
		h := api.Graph{Edge: edges, Links: carried}
		if !graph.Carries(g, h, m) {
			t.Fatal("not carried")
		}
	}
}

// Rule 3: lists that are handed in stay what they are, and those that are handed out are the caller's own.
func TestListsAreKeptApart(t *testing.T) {
	rng := rand.New(rand.NewPCG(15, 2))
	for range 300 {
		g, l := madeGraph(rng, 1+rng.IntN(12))
		kept, occurrences, n := copied(g), slices.Clone(l), len(l)
		m, k := rng.Perm(n), rng.Perm(n)
		heldM, heldK := slices.Clone(m), slices.Clone(k)
		for range 2 {
			occ := rng.IntN(n)
			for _, ask := range []func() []int{
				func() []int { return graph.Family(g, occ) },
				func() []int { return graph.Uses(g, occ) },
				func() []int { return graph.Through(g, 0) },
				func() []int { return graph.Spare(g, l) },
				func() []int { return graph.Then(m, k) },
				func() []int { return graph.New(n+3, m) },
				func() []int { edges, _, _ := graph.Carry(g, m); return edges },
			} {
				first := ask()
				want := slices.Clone(first)
				clear(first)
				if got := ask(); !slices.Equal(got, want) {
					t.Fatal(got, want)
				}
			}
			_, links, _ := graph.Carry(g, m)
			want := slices.Clone(links)
			clear(links)
			if _, got, _ := graph.Carry(g, m); !slices.Equal(got, want) {
				t.Fatal(got, want)
			}
			graph.Carries(g, g, m)
			graph.Right(g, l)
		}
		if !same(g, kept) || !slices.Equal(l, occurrences) || !slices.Equal(m, heldM) || !slices.Equal(k, heldK) {
			t.Fatal("changed")
		}
	}
}
