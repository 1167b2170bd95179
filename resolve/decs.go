package resolve

import (
	"oriel/api"
	"oriel/env"
)

// decs goes through declarations that stand in e, and is e with all that they bind.
func (r *resolver) decs(e *env.Env, l []api.Node) *env.Env {
	for i := range l {
		e = r.dec(e, &l[i])
	}
	return e
}

// dec goes through a declaration, and is e with what it binds.
func (r *resolver) dec(e *env.Env, n *api.Node) *env.Env {
	switch n.Kind {
	case api.NdVal:
		names := r.pats(e, n.Kids[:1])
		r.exp(e, &n.Kids[1])
		return r.declareAll(e, names)
	case api.NdFun:
		return r.functions(e, n)
	case api.NdType:
		r.ty(e, &n.Kids[0])
		return r.declare(e, n.Occs[0], nil)
	case api.NdData:
		return r.datatypes(e, n, once{})
	case api.NdOpen:
		parts := r.path(e, n.Occs...).Parts
		r.opens++
		return e.Open(parts, r.opens-1)
	case api.NdLocal:
		first := r.decs(e, n.Kids[0].Kids)
		second := r.decs(first, n.Kids[1].Kids)
		return e.Plus(second.Since(first))
	}
	return r.module(e, n)
}

// functions goes through the functions of a fun, each of which has all their names.
func (r *resolver) functions(e *env.Env, n *api.Node) *env.Env {
	met := once{}
	for _, f := range n.Kids {
		r.meet(met, f.Occs[0])
		e = r.declare(e, f.Occs[0], nil)
	}
	for i := range n.Kids {
		last := len(n.Kids[i].Kids) - 1
		r.clause(e, n.Kids[i].Kids[:last], &n.Kids[i].Kids[last])
	}
	return e
}

// datatypes goes through the datatypes of a declaration, or of a specification, where the names that are met already may not stand once more.
func (r *resolver) datatypes(e *env.Env, n *api.Node, met once) *env.Env {
	for _, t := range n.Kids {
		r.meet(met, t.Occs[0])
		e = r.declare(e, t.Occs[0], nil)
	}
	var constructors []int
	for _, t := range n.Kids {
		for _, c := range t.Kids {
			r.meet(met, c.Occs[0])
			r.types(e, c.Kids)
			constructors = append(constructors, c.Occs[0])
		}
	}
	return r.declareAll(e, constructors)
}

// module goes through the declaration of a structure, a signature or a functor.
func (r *resolver) module(e *env.Env, n *api.Node) *env.Env {
	x := env.Item{Decl: n.Occs[0], Via: -1}
	within, body := e, n.Kids
	switch n.Kind {
	case api.NdFunctor:
		x.Param = r.sig(e, &n.Kids[0])
		within, body = r.declare(e, n.Occs[1], x.Param), n.Kids[1:]
		fallthrough // the rest is as of a structure
	case api.NdStr:
		x.Parts = r.body(within, n, body)
	case api.NdSig:
		x.Parts = r.sig(e, &n.Kids[0])
	}
	return e.With(r.key(x.Decl), x)
}

// body goes through what n, a structure or a functor, is declared to be: a signature, if there is one, and a structure; and is which parts it has by that.
func (r *resolver) body(e *env.Env, n *api.Node, kids []api.Node) *env.Env {
	if len(kids) == 1 {
		return r.str(e, &kids[0])
	}
	spec := r.sig(e, &kids[0])
	have := r.str(e, &kids[1])
	r.match(n, spec, have)
	return spec
}
