package resolve

import (
	"oriel/api"
	"oriel/env"
)

// pats goes through patterns, in which each name may stand only once, and is the names that they declare, in order.
func (r *resolver) pats(e *env.Env, l []api.Node) []int {
	met := once{}
	var names []int
	var walk func(l []api.Node)
	walk = func(l []api.Node) {
		for _, n := range l {
			switch n.Kind {
			case api.NdBind, api.NdAs:
				r.meet(met, n.Occs[0])
				names = append(names, n.Occs[0])
			case api.NdConUse:
				r.path(e, n.Occs...)
			}
			walk(n.Kids)
		}
	}
	walk(l)
	return names
}

// clause goes through patterns, and an expression that has their names.
func (r *resolver) clause(e *env.Env, pats []api.Node, exp *api.Node) {
	r.exp(r.declareAll(e, r.pats(e, pats)), exp)
}

// exp goes through an expression that stands in e.
func (r *resolver) exp(e *env.Env, n *api.Node) {
	switch n.Kind {
	case api.NdVar, api.NdConUse:
		r.path(e, n.Occs...)
	case api.NdFn, api.NdArm:
		r.clause(e, n.Kids[:1], &n.Kids[1])
	case api.NdLet:
		r.exp(r.decs(e, n.Kids[0].Kids), &n.Kids[1])
	default:
		r.members(e, n)
	}
}

// members goes through expressions beside one another, with a sign behind each but the last one, where there are signs.
func (r *resolver) members(e *env.Env, n *api.Node) {
	for i := range n.Kids {
		r.exp(e, &n.Kids[i])
		if i < len(n.Occs) {
			r.path(e, n.Occs[i])
		}
	}
}

// types goes through types beside one another.
func (r *resolver) types(e *env.Env, l []api.Node) {
	for i := range l {
		r.ty(e, &l[i])
	}
}

// ty goes through a type that stands in e. A path stands behind the types that it has.
func (r *resolver) ty(e *env.Env, n *api.Node) {
	n, uses := down(n, api.NdTyUse)
	r.types(e, n.Kids)
	r.path(e, n.Occs...)
	for _, use := range uses {
		r.types(e, use.Kids[1:])
		r.path(e, use.Occs...)
	}
}
