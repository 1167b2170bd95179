package find

import (
	"slices"

	"oriel/api"
	"oriel/match"
)

// sides is a part that has what a signature asks for, and one that has what is held against that.
type sides struct{ spec, have int }

// Links is what is linked; false, if a structure has not what its signature asks for, or names are not found.
func (f *Finder) Links() ([]api.Pair, bool) {
	if f == nil || slices.Contains(f.edges, none) {
		return nil, false
	}
	var links []api.Pair
	left := f.matches()
	met := map[sides]int{} // parts may be shared, many times over: the same ones have the same links
	for len(left) > 0 {
		next := left[len(left)-1]
		left = left[:len(left)-1]
		next = sides{f.body(next.spec), f.body(next.have)}
		if met[next]++; met[next] > 1 {
			continue
		}
		for _, k := range f.keys(next.spec) {
			spec, have := f.had(next.spec, k), f.had(next.have, k)
			if have == none {
				return nil, false
			}
			links = append(links, api.Pair{A: spec, B: have})
			if k.Space == api.SpStr {
				left = append(left, sides{f.holder(spec), f.holder(have)})
			}
		}
	}
	return match.Links(links...), true
}

// matches is all that is held against a signature anywhere.
func (f *Finder) matches() []sides {
	var l []sides
	for _, n := range f.parts {
		switch n.kind {
		case api.NdStr, api.NdFunctor:
			if n.mark != 0 {
				last := len(n.kids) - 1
				l = append(l, sides{n.kids[last-1], n.kids[last]})
			}
		case api.NdSeal:
			l = append(l, sides{n.kids[1], n.kids[0]})
		case api.NdApply:
			functor := f.parts[f.holder(f.edges[n.occs[0]])]
			l = append(l, sides{functor.kids[0], n.kids[0]})
		}
	}
	return l
}
