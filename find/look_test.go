package find_test

import (
	"slices"
	"testing"

	"oriel/api"
	"oriel/env"
	"oriel/find"
	"oriel/resolve"
	"oriel/unit"
)

// forward binds the names of a unit that is not refused as chapter 13 does, file by file, and keeps the environment in which each front stands.
type forward struct {
	occs  []api.Occ
	names []string
	at    map[int]*env.Env
}

// fronts is the environment in which each front of u stands.
func fronts(u *unit.Unit) map[int]*env.Env {
	w := &forward{u.Occs(), u.Names(), map[int]*env.Env{}}
	var e *env.Env
	for _, n := range u.Nodes() {
		e = w.all(e, n.Kids)
	}
	return w.at
}

func (w *forward) key(occ int) env.Key { return env.Key{Space: w.occs[occ].Space, Name: w.names[occ]} }

// path notes where a path's front stands, and is what the path means.
func (w *forward) path(e *env.Env, occs ...int) env.Item {
	w.at[occs[0]] = e
	var x env.Item
	for _, occ := range occs {
		x, _ = e.Find(w.key(occ))
		e = x.Parts
	}
	return x
}

// declare is e with these names.
func (w *forward) declare(e *env.Env, parts *env.Env, occs ...int) *env.Env {
	for _, occ := range occs {
		e = e.With(w.key(occ), env.Item{Decl: occ, Via: -1, Parts: parts})
	}
	return e
}

// all is e with what declarations, or specifications, bind.
func (w *forward) all(e *env.Env, l []api.Node) *env.Env {
	for _, n := range l {
		e = w.dec(e, n)
	}
	return e
}

func (w *forward) dec(e *env.Env, n api.Node) *env.Env {
	switch n.Kind {
	case api.NdVal:
		names := w.term(e, n.Kids[0])
		w.term(e, n.Kids[1])
		return w.declare(e, nil, names...)
	case api.NdFun:
		for _, f := range n.Kids {
			e = w.declare(e, nil, f.Occs[0])
		}
		for _, f := range n.Kids {
			w.clause(e, f.Kids)
		}
		return e
	case api.NdData:
		return w.data(e, n)
	case api.NdOpen:
		return e.Open(w.path(e, n.Occs...).Parts, 0)
	case api.NdInclude:
		return e.Open(w.module(e, n.Kids[0]), -1)
	case api.NdLocal:
		first := w.all(e, n.Kids[0].Kids)
		return e.Plus(w.all(first, n.Kids[1].Kids).Since(first))
	case api.NdFunctor:
		param := w.module(e, n.Kids[0])
		within := w.declare(e, param, n.Occs[1])
		return e.With(w.key(n.Occs[0]), env.Item{Decl: n.Occs[0], Via: -1, Parts: w.body(within, n.Kids[1:]), Param: param})
	case api.NdStr, api.NdSig, api.NdStrSpec:
		return w.declare(e, w.body(e, n.Kids), n.Occs[0])
	}
	for _, kid := range n.Kids {
		w.term(e, kid)
	}
	return w.declare(e, nil, n.Occs[0])
}

func (w *forward) data(e *env.Env, n api.Node) *env.Env {
	for _, d := range n.Kids {
		e = w.declare(e, nil, d.Occs[0])
	}
	var cons []int
	for _, d := range n.Kids {
		for _, c := range d.Kids {
			cons = append(cons, c.Occs[0])
			for _, ty := range c.Kids {
				w.term(e, ty)
			}
		}
	}
	return w.declare(e, nil, cons...)
}

// body is what the first one of these modules has: the signature, where there is one.
func (w *forward) body(e *env.Env, l []api.Node) *env.Env {
	parts := w.module(e, l[0])
	for _, n := range l[1:] {
		w.module(e, n)
	}
	return parts
}

// module is what a structure or a signature has.
func (w *forward) module(e *env.Env, n api.Node) *env.Env {
	switch n.Kind {
	case api.NdStruct, api.NdBody:
		return w.all(e, n.Kids).Since(e)
	case api.NdApply:
		w.module(e, n.Kids[0])
	case api.NdSeal:
		w.module(e, n.Kids[0])
		return w.module(e, n.Kids[1])
	case api.NdWhere:
		parts := w.module(e, n.Kids[0])
		w.path(parts, n.Occs...)
		w.term(e, n.Kids[1])
		return parts
	}
	return w.path(e, n.Occs...).Parts
}

// clause goes through patterns, and an expression behind them.
func (w *forward) clause(e *env.Env, l []api.Node) {
	within := e
	for _, pat := range l[:len(l)-1] {
		within = w.declare(within, nil, w.term(e, pat)...)
	}
	w.term(within, l[len(l)-1])
}

// term goes through an expression, a type or a pattern, and is the names that it declares.
func (w *forward) term(e *env.Env, n api.Node) []int {
	var made []int
	switch n.Kind {
	case api.NdFn, api.NdArm:
		w.clause(e, n.Kids)
		return nil
	case api.NdLet:
		w.term(w.all(e, n.Kids[0].Kids), n.Kids[1])
		return nil
	case api.NdBind, api.NdAs:
		made = append(made, n.Occs[0])
	case api.NdInfix:
		for _, occ := range n.Occs {
			w.path(e, occ)
		}
	case api.NdVar, api.NdConUse, api.NdTyUse:
		w.path(e, n.Occs...)
	}
	for _, kid := range n.Kids {
		made = append(made, w.term(e, kid)...)
	}
	return made
}

// P14.5, P14.4: each name that is anywhere, looked for where each occurrence stands, is what is bound there.
func TestLookMade(t *testing.T) {
	t.Parallel()
	found, missed, behind := 0, 0, 0
	for seed := range uint64(250) {
		u := load(t, sow(seed, 9, 0)...)
		g, fault := resolve.Resolve(u)
		if fault.Err != api.OK {
			t.Fatalf("%q: %v", u.Files(), fault)
		}
		f, at := find.New(u), fronts(u)
		for occ, o := range u.Occs() {
			e, front := at[occ]
			if front && o.Decl {
				t.Fatalf("%q: %d declares", u.Files(), occ)
			}
			if !front {
				behind++
			}
			for _, k := range keysOf(u) {
				x, bound := e.Find(k)
				if decl, ok := f.Look(occ, k); decl != x.Decl || ok != bound {
					t.Fatalf("%q: %d: %v is %d %v, not %d %v", u.Files(), occ, k, decl, ok, x.Decl, bound)
				}
				if bound {
					found++
				} else {
					missed++
				}
			}
			own := env.Key{Space: o.Space, Name: u.Names()[occ]}
			if decl, ok := f.Look(occ, own); front && (decl != g.Edge[occ] || !ok) {
				t.Fatalf("%q: %d is %d %v", u.Files(), occ, decl, ok)
			}
		}
	}
	if found < 20000 || missed < 20000 || behind < 1000 {
		t.Error(found, missed, behind)
	}
}

// others is names that may stand in the place of this one.
func others(text string) []string {
	for _, l := range [][]string{{"x", "y", "z"}, {"A", "B", "C"}} {
		if slices.Contains(l, text) {
			return l
		}
	}
	return []string{"+", "-"}
}

// P14.5: a front of which a name is found means that, if it is put in its place; one of which it is not found is unbound.
func TestLookPut(t *testing.T) {
	put, unbound := 0, 0
	for seed := range uint64(40) {
		files := sow(seed, 6, 0)
		u := load(t, files...)
		f, at := find.New(u), fronts(u)
		for occ, o := range u.Occs() {
			if _, front := at[occ]; !front {
				continue
			}
			was := files[o.File].Text
			for _, text := range others(was[o.At:o.End]) {
				turned := slices.Clone(files)
				turned[o.File].Text = was[:o.At] + text + was[o.End:]
				g, fault := resolve.Resolve(load(t, turned...))
				decl, ok := f.Look(occ, env.Key{Space: o.Space, Name: text})
				here := fault == api.Fault{Err: api.ErrUnbound, File: o.File, At: o.At}
				if ok == here || fault.Err == api.OK && g.Edge[occ] != decl {
					t.Fatalf("%q: %d is %d %v, not %v %v", turned, occ, decl, ok, g.Edge, fault)
				}
				put++
				if here {
					unbound++
				}
			}
		}
	}
	if put < 1000 || unbound < 500 {
		t.Error(put, unbound)
	}
}
