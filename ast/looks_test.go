package ast_test

import (
	"math"
	"reflect"
	"slices"
	"testing"

	"oriel/api"
	"oriel/ast"
)

// small is a node whose parts all differ.
func small() api.Node {
	return api.Node{Kind: 1, Mark: 2, At: 3, End: 4, Occs: []int{5, 6}, Kids: []api.Node{
		{Kind: 2, Occs: []int{9, 0}},
		{Kind: 1, Kids: []api.Node{{Kind: 3, Occs: []int{2}}, {Kind: 2, Mark: 1}}},
		{},
	}}
}

// P8.3: how many nodes, n itself among them.
func TestSize(t *testing.T) {
	if n := small(); ast.Size(n) != 6 || ast.Size(n.Kids[1]) != 3 || ast.Size(api.Node{}) != 1 {
		t.Fatal(ast.Size(n))
	}
	for seed := range uint64(50) {
		s, _ := newMaker(seed, 60).laid(func() string { return " " })
		n, _ := file(t, s)
		if got, want := ast.Size(n), len(every(&n)); got != want {
			t.Fatalf("%s: %d, not %d", s, got, want)
		}
	}
}

// P8.3: the nodes of some kinds, each ahead of its kids, in order; of no kinds all.
func TestAll(t *testing.T) {
	for seed := range uint64(50) {
		s, _ := newMaker(seed, 40).laid(func() string { return " " })
		n, _ := file(t, s)
		for _, asked := range [][]int{
			nil, {}, {api.NdFile}, {api.NdBind, api.NdVar}, {api.NdVar, api.NdBind, api.NdVar}, {api.NdVal, api.NdInfix, api.NdOpen, api.NdLet},
			{0}, {-1, 45, math.MaxInt}, {api.NdStr, -1}, {api.NdTyUse},
		} {
			var want []api.Node
			for _, part := range every(&n) {
				if len(asked) == 0 || slices.Contains(asked, part.Kind) {
					want = append(want, *part)
				}
			}
			if got := ast.All(n, asked...); !slices.EqualFunc(got, want, sameNode) {
				t.Fatalf("%s: %v: %d nodes, not %d", s, asked, len(got), len(want))
			}
		}
	}
	n := small()
	if all := ast.All(n, 2); len(all) != 2 || !sameNode(all[0], n.Kids[0]) || !sameNode(all[1], n.Kids[1].Kids[1]) {
		t.Fatal(all)
	}
	if all := ast.All(n, 0); len(all) != 1 || !empty(all[0]) {
		t.Fatal(all)
	}
	if all := ast.All(n, 7); len(all) != 0 {
		t.Fatal(all)
	}
}

// Rule 3: what All hands out is no part of what is handed in, and no two of it have anything in common.
func TestAllOwn(t *testing.T) {
	n := small()
	asked := []int{1, 2, 3}
	all := ast.All(n, asked...)
	if !reflect.DeepEqual(n, small()) || !slices.Equal(asked, []int{1, 2, 3}) {
		t.Fatal("turned")
	}
	for i := range all {
		others := ast.All(n, asked...)
		all := ast.All(n, asked...)
		spoil(&all[i])
		if !reflect.DeepEqual(n, small()) {
			t.Fatal("shared with the node")
		}
		for k := range all {
			if k != i && !sameNode(all[k], others[k]) {
				t.Fatalf("%d and %d share", i, k)
			}
		}
	}
}

// P8.3: all but places matters, in each part.
func TestAlike(t *testing.T) {
	a := small()
	if !ast.Alike(a, small()) || !ast.Alike(api.Node{}, api.Node{}) || ast.Alike(a, api.Node{}) {
		t.Fatal("itself")
	}
	for i := range every(&a) {
		for _, c := range []struct {
			change func(n *api.Node)
			alike  bool
		}{
			{func(n *api.Node) { n.At = 77 }, true},
			{func(n *api.Node) { n.End = -77 }, true},
			{func(n *api.Node) { n.Occs = append([]int{}, n.Occs...) }, true},
			{func(n *api.Node) { n.Kids = append([]api.Node{}, n.Kids...) }, true},
			{func(n *api.Node) { n.Kind++ }, false},
			{func(n *api.Node) { n.Mark++ }, false},
			{func(n *api.Node) { n.Occs = append(n.Occs, 0) }, false},
			{func(n *api.Node) { n.Occs = append([]int{1}, n.Occs...) }, false},
			{func(n *api.Node) { n.Kids = append(n.Kids, api.Node{}) }, false},
		} {
			b := small()
			c.change(every(&b)[i])
			if ast.Alike(a, b) != c.alike || ast.Alike(b, a) != c.alike {
				t.Fatalf("%d: %v %v, not %v", i, a, b, c.alike)
			}
		}
	}
	for i := range every(&a) {
		b := small()
		part := every(&b)[i]
		if len(part.Occs) == 0 && len(part.Kids) == 0 {
			continue
		}
		slices.Reverse(part.Occs)
		slices.Reverse(part.Kids)
		if changed := len(part.Occs) > 1 || len(part.Kids) > 1; ast.Alike(a, b) == changed {
			t.Fatalf("%d: %v %v", i, a, b)
		}
		b = small()
		if part = every(&b)[i]; len(part.Kids) > 0 {
			part.Kids = part.Kids[:len(part.Kids)-1]
		} else {
			part.Occs[0]++
		}
		if ast.Alike(a, b) || ast.Alike(b, a) {
			t.Fatalf("%d: %v %v", i, a, b)
		}
	}
}

// P8.3: other numbers make other nodes; other places and files do not.
func TestAlikeFiles(t *testing.T) {
	s, _ := newMaker(1, 60).laid(func() string { return " " })
	a, _, _, _ := ast.File(s, 0, 0)
	b, _, _, _ := ast.File("\n"+s, 3, 0)
	c, _, _, _ := ast.File(s, 0, 1)
	if !ast.Alike(a, b) || ast.Alike(a, c) {
		t.Fatal(ast.Alike(a, b), ast.Alike(a, c))
	}
}

// P8.3: the occurrences of each node of made files that declare.
func TestDeclared(t *testing.T) {
	for seed := range uint64(100) {
		s, _ := newMaker(seed, 60).laid(func() string { return " " })
		n, l := file(t, s)
		for _, part := range every(&n) {
			var want []int
			for i, o := range l {
				if o.Decl && part.At <= o.At && o.End <= part.End {
					want = append(want, i)
				}
			}
			if got := ast.Declared(*part, l); !slices.Equal(got, want) {
				t.Fatalf("%s: %s: %v, not %v", s, draw(*part), got, want)
			}
		}
	}
}

// P8.3: numbers that the list has not are passed over; those that are there twice, or do not rise, are told once, rising.
func TestDeclaredOdd(t *testing.T) {
	yes, no := api.Occ{Decl: true}, api.Occ{}
	n := api.Node{Occs: []int{3, -1, 1, 1, math.MinInt}, Kids: []api.Node{{Occs: []int{4, 0, 3}}, {Kids: []api.Node{{Occs: []int{2, 5, math.MaxInt}}}}}}
	for _, c := range []struct {
		l    []api.Occ
		want []int
	}{
		{nil, nil},
		{[]api.Occ{}, nil},
		{[]api.Occ{yes}, []int{0}},
		{[]api.Occ{no, no, no, no, no, no, yes}, nil},
		{[]api.Occ{no, yes, yes, yes}, []int{1, 2, 3}},
		{[]api.Occ{yes, no, yes, no, yes, yes, yes}, []int{0, 2, 4, 5}},
		{[]api.Occ{yes, yes, yes, yes, yes}, []int{0, 1, 2, 3, 4}},
	} {
		before := slices.Clone(c.l)
		if got := ast.Declared(n, c.l); !slices.Equal(got, c.want) || !slices.Equal(c.l, before) {
			t.Errorf("%v: %v, not %v", c.l, got, c.want)
		}
	}
	if !slices.Equal(n.Occs, []int{3, -1, 1, 1, math.MinInt}) || !slices.Equal(n.Kids[0].Occs, []int{4, 0, 3}) {
		t.Fatal("turned", n)
	}
}
