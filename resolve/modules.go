package resolve

import (
	"oriel/api"
	"oriel/env"
	"oriel/match"
)

// str goes through a structure that stands in e, and is its parts.
func (r *resolver) str(e *env.Env, n *api.Node) *env.Env {
	n, seals := down(n, api.NdSeal)
	parts := r.bareStr(e, n)
	for _, seal := range seals {
		spec := r.sig(e, &seal.Kids[1])
		r.match(seal, spec, parts)
		parts = spec
	}
	return parts
}

// bareStr goes through a structure without signatures behind it.
func (r *resolver) bareStr(e *env.Env, n *api.Node) *env.Env {
	switch n.Kind {
	case api.NdStruct:
		return r.decs(e, n.Kids).Since(e)
	case api.NdApply:
		functor := r.path(e, n.Occs...)
		r.match(n, functor.Param, r.str(e, &n.Kids[0]))
		return functor.Parts
	}
	return r.path(e, n.Occs...).Parts
}

// sig goes through a signature that stands in e, and is its parts.
func (r *resolver) sig(e *env.Env, n *api.Node) *env.Env {
	n, wheres := down(n, api.NdWhere)
	parts := r.bareSig(e, n)
	for _, where := range wheres {
		r.path(parts, where.Occs...)
		r.ty(e, &where.Kids[1])
	}
	return parts
}

// bareSig goes through a signature without types behind it.
func (r *resolver) bareSig(e *env.Env, n *api.Node) *env.Env {
	if n.Kind == api.NdSigUse {
		return r.path(e, n.Occs...).Parts
	}
	within, met := e, once{}
	for i := range n.Kids {
		within = r.spec(within, &n.Kids[i], met)
	}
	return within.Since(e)
}

// spec goes through a specification of a signature that has the names already that are met, and is e with what it declares.
func (r *resolver) spec(e *env.Env, n *api.Node, met once) *env.Env {
	switch n.Kind {
	case api.NdData:
		return r.datatypes(e, n, met)
	case api.NdInclude:
		return r.include(e, n, met)
	}
	r.meet(met, n.Occs[0])
	var parts *env.Env
	switch n.Kind {
	case api.NdStrSpec:
		parts = r.sig(e, &n.Kids[0])
	default:
		r.types(e, n.Kids)
	}
	return r.declare(e, n.Occs[0], parts)
}

// include goes through an include, and is e with all parts of its signature, none of which may be met already.
func (r *resolver) include(e *env.Env, n *api.Node, met once) *env.Env {
	parts := r.sig(e, &n.Kids[0])
	for _, k := range parts.Keys() {
		if met[k]++; met[k] > 1 {
			r.fail(api.ErrTwice, n.At)
		}
	}
	return e.Open(parts, -1)
}

// sides is a signature's parts, and those of a structure that are held against them.
type sides struct{ spec, have *env.Env }

// match holds what n has against what its signature asks for, and notes the links.
func (r *resolver) match(n *api.Node, spec, have *env.Env) {
	left := []sides{{spec, have}}
	for len(left) > 0 {
		next := left[len(left)-1]
		left = left[:len(left)-1]
		// Parts may be shared, many times over: the same ones have the same links, and are matched only once.
		if r.matched[next]++; r.matched[next] > 1 {
			continue
		}
		flat, within := next.split()
		links, _, ok := match.Match(flat, next.have)
		if !ok {
			r.fail(api.ErrMatch, n.At)
		}
		r.links = append(r.links, links...)
		left = append(left, within...)
	}
}

// split is what the signature asks for without the parts of its structures; and these, each with the structure's own.
func (s sides) split() (*env.Env, []sides) {
	var flat *env.Env
	var within []sides
	for _, k := range s.spec.Keys() {
		spec, _ := s.spec.Find(k)
		have, _ := s.have.Find(k)
		flat = flat.With(k, env.Item{Decl: spec.Decl, Via: -1})
		if k.Space == api.SpStr {
			within = append(within, sides{spec.Parts, have.Parts})
		}
	}
	return flat, within
}
