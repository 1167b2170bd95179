package find

import (
	"oriel/api"
	"oriel/env"
)

// part is a node, and its place among others, by their numbers.
type part struct {
	kind, mark int
	occs       []int
	kids       []int
	up         int    // the part around it
	from       view   // where names are looked for from it first
	scope      *scope // nil: no names are found in it
	body       int    // see Finder.body
}

// view is what may be seen of a part from one of its kids: what stands ahead of that.
type view struct{ part, kid int }

// scope is which names a part has, and at which of its kids.
type scope struct {
	gains []gain
	noted int       // how many of them are noted, from the first one on
	keys  []env.Key // all that is noted, each once
}

// gain is that a part has something at one of its kids: the name of an occurrence that declares, or (occ is none) all that another part has.
type gain struct{ kid, occ, part int }

// lay numbers all parts. The files are one part together: what stands in one of them stands behind all of those ahead of it.
func (f *Finder) lay(files []api.Node) {
	all := api.Node{Kind: api.NdFile}
	for _, n := range files {
		all.Kids = append(all.Kids, n.Kids...)
	}
	var lay func(n *api.Node, up, place int, from, to view)
	lay = func(n *api.Node, up, place int, from, to view) {
		for {
			p := f.enter(n, up, place, from, to)
			first := leans(n)
			for kid := first; kid < len(n.Kids); kid++ {
				from, to := f.views(p, kid, from, to)
				lay(&n.Kids[kid], p, kid, from, to)
			}
			if first == 0 {
				return
			}
			n, up, place = &n.Kids[0], p, 0
		}
	}
	lay(&all, none, 0, view{part: none}, view{part: none})
}

// leans is how many first kids of n are of those parts that may lie deeper in one another than calls may: one or none.
func leans(n *api.Node) int {
	switch n.Kind {
	case api.NdSeal, api.NdWhere, api.NdTyUse:
		return min(1, len(n.Kids))
	}
	return 0
}

// enter is the number that n is given as a kid of the part up. From it names are looked for in from first, and what it declares is seen in to.
func (f *Finder) enter(n *api.Node, up, place int, from, to view) int {
	p := len(f.parts)
	f.parts = append(f.parts, part{kind: n.Kind, mark: n.Mark, occs: n.Occs, kids: make([]int, len(n.Kids)), up: up, from: from, body: unknown})
	if up != none {
		f.parts[up].kids[place] = p
	}
	switch n.Kind {
	case api.NdOpen, api.NdInclude, api.NdLocal:
		f.gain(to, gain{occ: none, part: p})
	}
	for i, occ := range n.Occs {
		h := home{p, none}
		switch {
		case n.Kind == api.NdFunctor && i == 1:
			f.gain(view{p, 0}, gain{occ: occ}) // the parameter is seen from all but its own signature
		case f.occs[occ].Decl:
			f.gain(to, gain{occ: occ})
		case n.Kind != api.NdInfix && i > 0:
			h.ahead = n.Occs[i-1]
		}
		if n.Kind == api.NdFbind || n.Kind == api.NdDbind {
			f.gain(view{up, none}, gain{occ: occ}) // functions, and types, of one declaration are seen from all of it
		}
		f.homes[occ] = h
	}
	return p
}

// views is from and to, as told for the part p, for its next kid.
func (f *Finder) views(p, kid int, from, to view) (view, view) {
	switch n := f.parts[p]; n.kind {
	case api.NdFile, api.NdStruct, api.NdBody, api.NdDecs:
		to = view{p, kid}
		fallthrough // names are looked for there, too
	case api.NdFun, api.NdData, api.NdFunctor:
		from = view{p, kid}
	case api.NdFbind, api.NdFn, api.NdArm:
		from, to = view{p, kid}, view{p, len(n.kids) - 2} // patterns are seen from the expression alone
	case api.NdLocal, api.NdLet:
		if kid == 1 {
			from = f.whole(n.kids[0])
		}
	}
	return from, to
}

// gain notes that a part has something there.
func (f *Finder) gain(at view, g gain) {
	n := &f.parts[at.part]
	if n.scope == nil {
		n.scope = &scope{}
	}
	g.kid = at.kid
	n.scope.gains = append(n.scope.gains, g)
}

// whole is all of a part.
func (f *Finder) whole(p int) view {
	if p == none {
		return view{part: none}
	}
	return view{p, len(f.parts[p].kids)}
}
