package resolve_test

import (
	"maps"
	"slices"

	"oriel/api"
	"oriel/match"
	"oriel/unit"
)

// The meaning of names, worked out another way: nothing is bound, but each name is looked for backward and outward from where it stands, in the parts ahead.

// part is a node, and where it stands: as which kid of which part, or as which file.
type part struct {
	api.Node
	up    *part
	place int
	parts []*part
}

// name is a name, and its space.
type name struct {
	space int
	text  string
}

// found is what declares a name, and through which open it was found; the part that holds what it has, and, of a functor, what its parameter has.
type found struct {
	decl, via int
	has       *part
	param     *part
}

// seeker looks for names in a unit.
type seeker struct {
	files []*part
	occs  []api.Occ
	names []string
	homes []*part // of each occurrence the part whose name it is
	opens map[*part]int
	met   map[int]found // what was found already
	links []api.Pair
}

func newSeeker(u *unit.Unit) *seeker {
	s := &seeker{occs: u.Occs(), names: u.Names(), opens: map[*part]int{}, met: map[int]found{}}
	s.homes = make([]*part, len(s.occs))
	for i, n := range u.Nodes() {
		s.files = append(s.files, s.lay(n, nil, i))
	}
	return s
}

func (s *seeker) lay(n api.Node, up *part, place int) *part {
	p := &part{Node: n, up: up, place: place}
	for _, occ := range n.Occs {
		s.homes[occ] = p
	}
	if n.Kind == api.NdOpen {
		s.opens[p] = len(s.opens)
	}
	for i, kid := range n.Kids {
		p.parts = append(p.parts, s.lay(kid, p, i))
	}
	return p
}

func (s *seeker) nameOf(occ int) name { return name{s.occs[occ].Space, s.names[occ]} }

// declared is what an occurrence that declares is found as.
func (s *seeker) declared(occ int) found {
	p := s.homes[occ]
	f := found{decl: occ, via: -1}
	switch p.Kind {
	case api.NdStr, api.NdSig, api.NdStrSpec:
		f.has = p.parts[0] // the signature, if there is one
	case api.NdFunctor:
		if f.has = p.parts[0]; occ == p.Occs[0] {
			f.has, f.param = p.parts[1], p.parts[0]
		}
	}
	return f
}

// declares is all that p, a declaration or a part of one, declares itself, in order.
func (p *part) declares() []int {
	var l []int
	switch p.Kind {
	case api.NdVal:
		return patterns(p.parts[:1])
	case api.NdFun:
		for _, f := range p.parts {
			l = append(l, f.Occs[0])
		}
	case api.NdData:
		l = p.types()
		for _, d := range p.parts {
			for _, c := range d.parts {
				l = append(l, c.Occs[0])
			}
		}
	case api.NdType, api.NdStr, api.NdSig, api.NdFunctor, api.NdValSpec, api.NdTySpec, api.NdStrSpec:
		l = p.Occs[:1]
	}
	return l
}

// types is the names of all types of a datatype.
func (p *part) types() []int {
	var l []int
	for _, d := range p.parts {
		l = append(l, d.Occs[0])
	}
	return l
}

// patterns is the names of values in patterns.
func patterns(parts []*part) []int {
	var l []int
	for _, p := range parts {
		if p.Kind == api.NdBind || p.Kind == api.NdAs {
			l = append(l, p.Occs[0])
		}
		l = append(l, patterns(p.parts)...)
	}
	return l
}

// among is which of these occurrences, the last one first, declares the name.
func (s *seeker) among(occs []int, n name) (found, bool) {
	for _, occ := range slices.Backward(occs) {
		if s.nameOf(occ) == n {
			return s.declared(occ), true
		}
	}
	return found{}, false
}

// inside is the name, looked for in a declaration.
func (s *seeker) inside(p *part, n name) (found, bool) {
	switch p.Kind {
	case api.NdOpen:
		f, ok := s.path(p.Occs)
		if ok {
			f, ok = s.had(f.has, n)
		}
		if !ok {
			return found{}, false
		}
		f.via = s.opens[p]
		return f, true
	case api.NdLocal:
		return s.members(p.parts[1].parts, n)
	case api.NdInclude:
		return s.had(p.parts[0], n)
	}
	return s.among(p.declares(), n)
}

// members is the name, looked for in declarations, the last one first.
func (s *seeker) members(l []*part, n name) (found, bool) {
	for _, p := range slices.Backward(l) {
		if f, ok := s.inside(p, n); ok {
			return f, true
		}
	}
	return found{}, false
}

// body is the struct or the sig in which all that p has stands, where p is a structure or a signature.
func (s *seeker) body(p *part) *part {
	for p.Kind != api.NdStruct && p.Kind != api.NdBody {
		switch p.Kind {
		case api.NdSeal:
			p = p.parts[1]
		case api.NdWhere:
			p = p.parts[0]
		default:
			f, ok := s.path(p.Occs)
			if !ok {
				return nil
			}
			p = f.has
		}
	}
	return p
}

// had is the name, looked for in what p has.
func (s *seeker) had(p *part, n name) (found, bool) {
	if p = s.body(p); p == nil {
		return found{}, false
	}
	f, ok := s.members(p.parts, n)
	if f.via = -1; !ok {
		return found{}, false
	}
	return f, true
}

// path is what the last one of a path's names is found as.
func (s *seeker) path(occs []int) (found, bool) {
	last := occs[len(occs)-1]
	if f, ok := s.met[last]; ok {
		return f, true
	}
	var f found
	var ok bool
	p := s.homes[last]
	switch {
	case len(occs) > 1:
		if f, ok = s.path(occs[:len(occs)-1]); ok {
			f, ok = s.had(f.has, s.nameOf(last))
		}
	case p.Kind == api.NdWhere:
		f, ok = s.had(p.parts[0], s.nameOf(last))
	default:
		f, ok = s.look(p, s.nameOf(last))
	}
	if ok {
		s.met[last] = f
	}
	return f, ok
}

// look is the name, looked for from p.
func (s *seeker) look(p *part, n name) (found, bool) {
	for ; p.up != nil; p = p.up {
		if f, ok := s.around(p.up, p.place, n); ok {
			return f, true
		}
	}
	for _, file := range slices.Backward(s.files[:p.place]) {
		if f, ok := s.members(file.parts, n); ok {
			return f, true
		}
	}
	return found{}, false
}

// around is the name, looked for in the part around a kid.
func (s *seeker) around(p *part, kid int, n name) (found, bool) {
	switch p.Kind {
	case api.NdFile, api.NdStruct, api.NdBody, api.NdDecs:
		return s.members(p.parts[:kid], n)
	case api.NdLocal, api.NdLet:
		if kid == 1 {
			return s.members(p.parts[0].parts, n)
		}
	case api.NdFbind, api.NdFn, api.NdArm:
		if kid == len(p.parts)-1 {
			return s.among(patterns(p.parts[:kid]), n)
		}
	case api.NdFun:
		return s.among(p.declares(), n)
	case api.NdData:
		return s.among(p.types(), n)
	case api.NdFunctor:
		if kid > 0 {
			return s.among(p.Occs[1:], n)
		}
	}
	return found{}, false
}

// all is all names that p, a signature, has.
func (s *seeker) all(p *part) []name {
	l := map[name]int{}
	var gather func(members []*part)
	gather = func(members []*part) {
		for _, m := range members {
			for _, occ := range m.declares() {
				l[s.nameOf(occ)] = 0
			}
			if m.Kind == api.NdInclude {
				gather(s.body(m.parts[0]).parts)
			}
		}
	}
	gather(s.body(p).parts)
	return slices.Collect(maps.Keys(l))
}

// matched notes the links of what has with what spec has; false, if something is missed.
func (s *seeker) matched(spec, has *part) bool {
	for _, n := range s.all(spec) {
		asked, _ := s.had(spec, n)
		got, ok := s.had(has, n)
		if !ok {
			return false
		}
		s.links = append(s.links, api.Pair{A: asked.decl, B: got.decl})
		if n.space == api.SpStr && !s.matched(asked.has, got.has) {
			return false
		}
	}
	return true
}

// sought is the graph, or the fault of the first part in the order of the rules that has one.
func sought(u *unit.Unit) (api.Graph, api.Fault) {
	s := newSeeker(u)
	for i, p := range s.files {
		if err, at := s.check(p); err != api.OK {
			return api.Graph{}, api.Fault{Err: err, File: i, At: at}
		}
	}
	g := api.Graph{Links: match.Links(s.links...)}
	for occ := range s.occs {
		edge, via := occ, -1
		if f, ok := s.met[occ]; ok {
			edge, via = f.decl, f.via
		}
		g.Edge, g.Via = append(g.Edge, edge), append(g.Via, via)
	}
	return g, api.Fault{}
}

// check is the first fault in p: of its names and its parts, as they stand in the text, but of fun and datatype all names of functions, and of types, first; at last what can be told of p as a whole.
func (s *seeker) check(p *part) (api.Errno, int) {
	if p.Kind == api.NdFun || p.Kind == api.NdData {
		for _, kid := range p.parts {
			if s.twice(kid.Occs[0]) {
				return api.ErrTwice, s.occs[kid.Occs[0]].At
			}
		}
	}
	occs, parts := p.Occs, p.parts
	for len(occs)+len(parts) > 0 {
		if len(parts) == 0 || len(occs) > 0 && s.occs[occs[0]].At < parts[0].At {
			if err := s.checkName(p, occs[0]); err != api.OK {
				return err, s.occs[occs[0]].At
			}
			occs = occs[1:]
			continue
		}
		if err, at := s.check(parts[0]); err != api.OK {
			return err, at
		}
		parts = parts[1:]
	}
	return s.checkWhole(p), p.At
}

// checkName is what is wrong with a name of p.
func (s *seeker) checkName(p *part, occ int) api.Errno {
	if s.occs[occ].Decl {
		if p.Kind != api.NdFbind && p.Kind != api.NdDbind && s.twice(occ) {
			return api.ErrTwice
		}
		return api.OK
	}
	f, ok := found{}, false
	if i := slices.Index(p.Occs, occ); p.Kind == api.NdInfix {
		f, ok = s.path(p.Occs[i : i+1])
	} else if f, ok = s.path(p.Occs[:i+1]); i > 0 {
		f.via = -1
	}
	if !ok {
		return api.ErrUnbound
	}
	s.met[occ] = f
	return api.OK
}

// twice says whether a name that is declared stands ahead where it may stand only once.
func (s *seeker) twice(occ int) bool {
	p := s.homes[occ]
	var l []int
	switch p.Kind {
	case api.NdBind, api.NdAs:
		kid := p
		for kid.up.Kind == api.NdTuple || kid.up.Kind == api.NdConUse || kid.up.Kind == api.NdAs {
			kid = kid.up
		}
		if kid.up.Kind == api.NdFbind {
			l = patterns(kid.up.parts[:kid.place+1])
		} else {
			l = patterns([]*part{kid})
		}
	case api.NdFbind:
		l = p.up.declares()
	case api.NdDbind:
		l, p = p.up.types(), p.up
	case api.NdCon:
		l, p = p.up.up.declares(), p.up.up
	}
	for _, other := range l {
		if other < occ && s.nameOf(other) == s.nameOf(occ) {
			return true
		}
	}
	if p.up.Kind != api.NdBody {
		return false
	}
	_, ok := s.members(p.up.parts[:p.place], s.nameOf(occ))
	return ok
}

// checkWhole is what is wrong with p, of which all names and parts are right.
func (s *seeker) checkWhole(p *part) api.Errno {
	spec, has := (*part)(nil), (*part)(nil)
	switch p.Kind {
	case api.NdInclude:
		for _, n := range s.all(p.parts[0]) {
			if _, ok := s.members(p.up.parts[:p.place], n); ok {
				return api.ErrTwice
			}
		}
	case api.NdStr:
		if p.Mark != 0 {
			spec, has = p.parts[0], p.parts[1]
		}
	case api.NdFunctor:
		if p.Mark != 0 {
			spec, has = p.parts[1], p.parts[2]
		}
	case api.NdSeal:
		spec, has = p.parts[1], p.parts[0]
	case api.NdApply:
		f, _ := s.path(p.Occs)
		spec, has = f.param, p.parts[0]
	}
	if spec != nil && !s.matched(spec, has) {
		return api.ErrMatch
	}
	return api.OK
}
