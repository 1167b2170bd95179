package match

import (
	"cmp"
	"slices"

	"oriel/api"
)

// link is a pair that is put in order among others.
type link api.Pair

// order says which of two links comes first.
func (a link) order(b link) int {
	return cmp.Or(cmp.Compare(a.A, b.A), cmp.Compare(a.B, b.B))
}

// Less says whether a comes ahead of b: by A, or, with the same A, by B.
func Less(a, b api.Pair) bool { return link(a).order(link(b)) < 0 }

// Links is the pairs in order, each once, the lesser one as A, without those of one number with itself.
func Links(l ...api.Pair) []api.Pair {
	var links []link
	for _, p := range l {
		if p.A != p.B {
			links = append(links, link{A: min(p.A, p.B), B: max(p.A, p.B)})
		}
	}
	slices.SortFunc(links, link.order)
	var rising []api.Pair
	for _, x := range slices.Compact(links) {
		rising = append(rising, api.Pair(x))
	}
	return rising
}

// leads is numbers from 0 on, each of which leads on to one that is not greater; the least one of a class leads to itself.
type leads []int

// least is the least number of the class of x.
func (l leads) least(x int) int {
	for l[x] != x {
		l[x] = l[l[x]] // the next way from here is half as long
		x = l[x]
	}
	return x
}

// join makes the classes of a and b one.
func (l leads) join(a, b int) {
	a, b = l.least(a), l.least(b)
	l[max(a, b)] = min(a, b)
}

// Class is for each number below n the least one to which pairs lead from it, over numbers below n alone.
func Class(n int, l []api.Pair) []int {
	if n < 0 || n > api.MaxBytes {
		return nil
	}
	all := make(leads, n)
	for i := range n {
		all[i] = i
	}
	for _, p := range l {
		if 0 <= p.A && p.A < n && 0 <= p.B && p.B < n {
			all.join(p.A, p.B)
		}
	}
	for i := range n {
		all[i] = all.least(i)
	}
	return all
}

// Linked says whether a leads to b by pairs, either way, or both are the same.
func Linked(l []api.Pair, a, b int) bool {
	var all leads
	places := map[int]int{} // any numbers may be linked: each is known by its place in all
	place := func(x int) int {
		at, met := places[x]
		if !met {
			at = len(all)
			places[x] = at
			all = append(all, at)
		}
		return at
	}
	for _, p := range l {
		from, to := place(p.A), place(p.B)
		all.join(from, to)
	}
	from, to := place(a), place(b)
	return all.least(from) == all.least(to)
}
