package ast

import (
	"slices"

	"oriel/api"
)

// Size is how many nodes n is, with all below it.
func Size(n api.Node) int {
	size := 0
	each(&n, func(*api.Node) { size++ })
	return size
}

// All is the nodes of one of these kinds, n and all below it, each ahead of its kids; of no kinds all.
func All(n api.Node, kinds ...int) []api.Node {
	var out []api.Node
	each(&n, func(n *api.Node) {
		if len(kinds) == 0 || slices.Contains(kinds, n.Kind) {
			out = append(out, own(n))
		}
	})
	return out
}

// Alike says whether a and b are the same, wherever they stand.
func Alike(a, b api.Node) bool {
	return walk(&couple{&a, &b}, (*couple).kids, func(c *couple) bool {
		a, b := c.a, c.b
		return a.Kind == b.Kind && a.Mark == b.Mark && slices.Equal(a.Occs, b.Occs) && len(a.Kids) == len(b.Kids)
	})
}

// couple is two nodes that are held against one another.
type couple struct{ a, b *api.Node }

// kids is the kids of two nodes that have as many.
func (c *couple) kids() []couple {
	var l []couple
	for i := range c.a.Kids {
		l = append(l, couple{&c.a.Kids[i], &c.b.Kids[i]})
	}
	return l
}

// Declared is the occurrences of n, and of all below it, that declare, as l tells it, in which each stands at its number.
func Declared(n api.Node, l []api.Occ) []int {
	var out []int
	each(&n, func(n *api.Node) {
		for _, occ := range n.Occs {
			if 0 <= occ && occ < len(l) && l[occ].Decl {
				out = append(out, occ)
			}
		}
	})
	slices.Sort(out)
	return slices.Compact(out)
}

// own is n in memory of its own: a node and a part of it may be in one answer, and are to share nothing.
func own(n *api.Node) api.Node {
	out := *n
	each(&out, func(n *api.Node) {
		n.Occs, n.Kids = slices.Clone(n.Occs), slices.Clone(n.Kids) // each is handed its kids' copies next
	})
	return out
}

// each hands on n, and all nodes below it, each ahead of its kids, in order.
func each(n *api.Node, hand func(n *api.Node)) {
	walk(n, func(n *api.Node) []api.Node { return n.Kids }, func(n *api.Node) bool {
		hand(n)
		return true
	})
}

// walk hands on top, and all that lies below it, each ahead of its kids, in order, as long as all is well; and says whether it is. What is left stands on a list of its own: parts may lie deeper in one another than calls may.
func walk[T any](top *T, kids func(part *T) []T, well func(part *T) bool) bool {
	left := []*T{top}
	for len(left) > 0 {
		part := left[len(left)-1]
		left = left[:len(left)-1]
		if !well(part) {
			return false
		}
		below := kids(part)
		for i := len(below) - 1; i >= 0; i-- {
			left = append(left, &below[i])
		}
	}
	return true
}
