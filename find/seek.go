package find

import (
	"sort"

	"oriel/api"
	"oriel/env"
)

// spot is a name in a part.
type spot struct {
	part int
	key  env.Key
}

// member is a kid of a part, and what declares a name there.
type member struct{ kid, decl int }

// means is what declares the occurrence.
func (f *Finder) means(occ int) int {
	h := f.homes[occ]
	switch {
	case f.occs[occ].Decl:
		return occ
	case h.ahead != none:
		return f.had(f.holder(f.edges[h.ahead]), f.key(occ))
	}
	return f.look(h.part, f.key(occ))
}

// look is what declares k where a name of p stands ahead of which no dot stands.
func (f *Finder) look(p int, k env.Key) int {
	if f.parts[p].kind == api.NdWhere {
		return f.had(f.parts[p].kids[0], k)
	}
	for at := f.parts[p].from; at.part != none; at = f.parts[at.part].from {
		if decl := f.seek(at, k); decl != none {
			return decl
		}
	}
	return none
}

// had is what declares k of all that p has.
func (f *Finder) had(p int, k env.Key) int { return f.seek(f.whole(f.body(p)), k) }

// seek is what declares k in a part, as far as it is seen: the last one that does.
func (f *Finder) seek(at view, k env.Key) int {
	f.note(at)
	l := f.named[spot{at.part, k}]
	n := sort.Search(len(l), func(i int) bool { return l[i].kid >= at.kid })
	if n == 0 {
		return none
	}
	return l[n-1].decl
}

// note notes all that a part has, as far as it is seen: a name may stand behind very many opens, and is not to be looked for in each of them.
func (f *Finder) note(at view) {
	if at.part == none || f.parts[at.part].scope == nil {
		return
	}
	s := f.parts[at.part].scope
	for ; s.noted < len(s.gains) && s.gains[s.noted].kid < at.kid; s.noted++ {
		g := s.gains[s.noted]
		if g.occ != none {
			f.bind(at.part, g.kid, f.key(g.occ), g.occ)
			continue
		}
		for _, k := range f.keys(g.part) {
			f.bind(at.part, g.kid, k, f.had(g.part, k))
		}
	}
}

// keys is all names that p has, each once.
func (f *Finder) keys(p int) []env.Key {
	all := f.whole(f.body(p))
	f.note(all)
	if all.part == none || f.parts[all.part].scope == nil {
		return nil
	}
	return f.parts[all.part].scope.keys
}

// bind notes what declares k at a part's kid.
func (f *Finder) bind(p, kid int, k env.Key, decl int) {
	where := spot{p, k}
	l := f.named[where]
	if len(l) == 0 {
		s := f.parts[p].scope
		s.keys = append(s.keys, k)
	}
	f.named[where] = append(l, member{kid, decl})
}

// unknown is the body of a part that was not asked for.
const unknown = -2

// body is the part whose members are all that p has; none, if it has nothing. It is kept: ways to it may be long.
func (f *Finder) body(p int) int {
	var passed []int
	for p != none && f.parts[p].body == unknown {
		passed = append(passed, p)
		if next := f.next(p); next != p {
			p = next
			continue
		}
		f.parts[p].body = p
	}
	if p != none {
		p = f.parts[p].body
	}
	for _, q := range passed {
		f.parts[q].body = p
	}
	return p
}

// next is the part that has what p has: p itself, if its members are that; none, if it has nothing.
func (f *Finder) next(p int) int {
	n := f.parts[p]
	kid := 0
	switch n.kind {
	case api.NdStruct, api.NdBody, api.NdDecs:
		return p
	case api.NdPath, api.NdOpen, api.NdSigUse, api.NdApply:
		return f.holder(f.edges[n.occs[len(n.occs)-1]])
	case api.NdFunctor, api.NdSeal, api.NdLocal:
		kid = 1 // ahead of it stand a parameter's signature, a structure that is hidden, what is not seen from without
		fallthrough
	case api.NdStr, api.NdStrSpec, api.NdSig, api.NdWhere, api.NdInclude:
		return n.kids[kid] // of a structure its signature, if it has one
	}
	return none
}

// holder is the part that has what an occurrence that declares is declared to have.
func (f *Finder) holder(decl int) int {
	if decl == none {
		return none
	}
	p := f.homes[decl].part
	if n := f.parts[p]; n.kind == api.NdFunctor && decl != n.occs[0] {
		return n.kids[0] // the parameter has what its signature has
	}
	return p
}
