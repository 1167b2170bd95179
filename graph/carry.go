package graph

import (
	"slices"

	"oriel/api"
	"oriel/match"
)

// Carry is the edges and the links of g where the map m has them, and true; nothing, and false, if m is no map that carries g.
func Carry(g api.Graph, m []int) ([]int, []api.Pair, bool) {
	if len(m) != len(g.Edge) {
		return nil, nil, false
	}
	size, ok := room(m)
	if !ok {
		return nil, nil, false
	}
	mapped := func(occ int) bool { return 0 <= occ && occ < len(m) && m[occ] != none }
	edges := slices.Repeat([]int{none}, size)
	for occ, place := range m {
		switch {
		case place == none:
		case !mapped(g.Edge[occ]):
			return nil, nil, false
		default:
			edges[place] = m[g.Edge[occ]]
		}
	}
	links := make([]api.Pair, len(g.Links))
	for i, p := range g.Links {
		if !mapped(p.A) || !mapped(p.B) {
			return nil, nil, false
		}
		links[i] = api.Pair{A: m[p.A], B: m[p.B]}
	}
	return edges, match.Links(links...), true
}

// room is how many places there are, up to the greatest one of m; false, if m has numbers that are no places, or a place twice.
func room(m []int) (int, bool) {
	size := 0
	met := map[int]struct{}{}
	for _, place := range m {
		if place == none {
			continue
		}
		if _, twice := met[place]; twice || place < 0 || place >= api.MaxBytes {
			return 0, false
		}
		met[place] = struct{}{}
		size = max(size, place+1)
	}
	return size, true
}

// Carries says whether h is g as the map m carries it, and what h has besides.
func Carries(g, h api.Graph, m []int) bool {
	edges, links, ok := Carry(g, m)
	if !ok || len(edges) > len(h.Edge) {
		return false
	}
	for place, edge := range edges {
		if edge != none && h.Edge[place] != edge {
			return false
		}
	}
	return slices.Equal(links, h.Links)
}

// Then is the map m, and the map k behind it.
func Then(m, k []int) []int {
	l := make([]int, len(m))
	for i, place := range m {
		l[i] = none
		if 0 <= place && place < len(k) {
			l[i] = k[place]
		}
	}
	return l
}

// New is the numbers below n that are no places of m, rising.
func New(n int, m []int) []int {
	if n > api.MaxBytes {
		return nil
	}
	met := map[int]struct{}{}
	for _, place := range m {
		if 0 <= place && place < n {
			met[place] = struct{}{}
		}
	}
	return those(n, func(x int) bool {
		_, is := met[x]
		return !is
	})
}
