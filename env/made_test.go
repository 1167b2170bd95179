package env_test

import (
	"maps"
	"slices"
	"testing"

	"oriel/env"
)

// bind is a binding as a model knows it.
type bind struct {
	key          env.Key
	decl, via    int
	parts, param *model
}

// model is an environment, told as a list of all its bindings, beside the one that is tested; of is the one of which it was made by With, Plus or Open.
type model struct {
	env *env.Env
	all []bind
	of  *model
}

// none is the model without bindings.
func none() *model { return &model{} }

// item is what a binding's key is given.
func (b bind) item() env.Item { return env.Item{b.decl, b.via, b.parts.it(), b.param.it()} }

func (m *model) it() *env.Env {
	if m == nil {
		return nil
	}
	return m.env
}

func (m *model) list() []bind {
	if m == nil {
		return nil
	}
	return m.all
}

// made is m and what was added, beside the environment that was answered.
func (m *model) made(e *env.Env, added ...bind) *model {
	return &model{e, slices.Concat(m.list(), added), m}
}

func (m *model) with(b bind) *model { return m.made(m.it().With(b.key, b.item()), b) }

func (m *model) plus(f *model) *model { return m.made(m.it().Plus(f.it()), f.list()...) }

func (m *model) open(parts *model, via int) *model {
	l := parts.bound()
	for i := range l {
		l[i].via = via
	}
	return m.made(m.it().Open(parts.it(), via), l...)
}

func (m *model) since(base *model) *model {
	return &model{env: m.it().Since(base.it()), all: m.behind(base)}
}

// behind is what m has behind base: all, if it was not made of it. One to which nothing was added is the one of which it was made.
func (m *model) behind(base *model) []bind {
	for up := m; up != nil; up = up.of {
		if up.self() == base.self() {
			return m.all[len(base.all):]
		}
	}
	return m.list()
}

func (m *model) self() *model {
	for m != nil && m.of != nil && len(m.all) == len(m.of.all) {
		m = m.of
	}
	return m
}

// bound is the bindings behind which none has their key.
func (m *model) bound() []bind {
	all := m.list()
	var l []bind
	for i, b := range all {
		if !slices.ContainsFunc(all[i+1:], func(c bind) bool { return c.key == b.key }) {
			l = append(l, b)
		}
	}
	return l
}

// same says what Same should.
func (m *model) same(f *model) bool {
	return slices.EqualFunc(m.bound(), f.bound(), func(a, b bind) bool {
		return a.key == b.key && a.decl == b.decl && a.parts.same(b.parts) && a.param.same(b.param)
	})
}

// check holds all that m's environment answers by itself against m.
func (m *model) check(t *testing.T) {
	t.Helper()
	var keys []env.Key
	table := map[env.Key]env.Item{}
	for _, b := range m.bound() {
		keys = append(keys, b.key)
		table[b.key] = b.item()
	}
	e := m.it()
	if l := e.Keys(); !slices.Equal(l, keys) {
		t.Fatalf("%v: keys %v, not %v", m.list(), l, keys)
	}
	if got := e.Table(); !maps.Equal(got, table) {
		t.Fatalf("%v: table %v, not %v", m.list(), got, table)
	}
	for _, k := range someKeys() {
		x, ok := e.Find(k)
		if want, bound := table[k]; x != want || ok != bound {
			t.Fatalf("%v: %v: %v %v", m.list(), k, x, ok)
		}
	}
	if (e == nil) != (len(m.list()) == 0) {
		t.Fatalf("%v: nil is the one without any", m.list())
	}
}

// someKeys is keys that differ in their spaces alone, in their names alone, by their case, by what begins with the other, and by bytes that no name has.
func someKeys() []env.Key {
	var l []env.Key
	for _, space := range []int{1, 2, 0, -1} {
		for _, s := range []string{"x", "y", "", "X", "xx", "x'", "\xff"} {
			l = append(l, env.Key{space, s})
		}
	}
	return l
}

// rolls is numbers that follow no plain order, the same ones each time.
type rolls uint64

// below is the next number, from 0 to n - 1.
func (r *rolls) below(n int) int {
	*r = *r*6364136223846793005 + 1442695040888963407
	return int(uint64(*r) >> 33 % uint64(n))
}

func one[T any](r *rolls, l []T) T { return l[r.below(len(l))] }

// pool is models made of one another in all ways. What lies in others is none of those that have parts within parts, nor many, so that it can be gone through part by part.
func pool(r *rolls, n int) []*model {
	l := []*model{none()}
	within := []*model{nil, l[0]}
	keys := someKeys()[:r.below(27)+1]
	for len(l) < n {
		m, f := one(r, l), one(r, l)
		var next *model
		switch r.below(9) {
		case 0:
			next = m.plus(f)
		case 1:
			next = m.open(f, r.below(4)-1)
		case 2:
			next = m.since(f)
		default:
			next = m.with(bind{one(r, keys), r.below(3), r.below(3) - 1, one(r, within), one(r, within)})
		}
		if len(next.all) > 200 {
			continue
		}
		l = append(l, next)
		if len(next.all) < 4 && !slices.ContainsFunc(next.all, func(b bind) bool { return len(b.parts.list())+len(b.param.list()) > 0 }) {
			within = append(within, next)
		}
	}
	return l
}
