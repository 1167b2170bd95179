package match_test

import (
	"slices"
	"strconv"
	"strings"

	"oriel/api"
	"oriel/env"
)

// bind is a binding as a model knows it.
type bind struct {
	key          env.Key
	decl, via    int
	parts, param *model
}

// model is an environment, told as a list of all its bindings, beside the one that is tested.
type model struct {
	env *env.Env
	all []bind
}

func (m *model) it() *env.Env {
	if m == nil {
		return nil
	}
	return m.env
}

func (m *model) list() []bind {
	if m == nil {
		return nil
	}
	return m.all
}

// with is m, and b behind it.
func (m *model) with(b bind) *model {
	e := m.it().With(b.key, env.Item{Decl: b.decl, Via: b.via, Parts: b.parts.it(), Param: b.param.it()})
	return &model{e, append(slices.Clone(m.list()), b)}
}

// bound is the bindings behind which none has their key.
func (m *model) bound() []bind {
	all := m.list()
	var l []bind
	for i, b := range all {
		if !slices.ContainsFunc(all[i+1:], func(c bind) bool { return c.key == b.key }) {
			l = append(l, b)
		}
	}
	return l
}

// way is the keys that lead to a binding, through structures.
type way []env.Key

// ways is the ways to all that m has, structures ahead of their parts.
func (m *model) ways() []way {
	var l []way
	for _, b := range m.bound() {
		l = append(l, way{b.key})
		if b.key.Space != api.SpStr {
			continue
		}
		for _, w := range b.parts.ways() {
			l = append(l, append(way{b.key}, w...))
		}
	}
	return l
}

// to is what a way leads to, if it does.
func (m *model) to(w way) (bind, bool) {
	for _, b := range m.bound() {
		if b.key == w[0] && len(w) == 1 {
			return b, true
		}
		if b.key == w[0] {
			return b.parts.to(w[1:])
		}
	}
	return bind{}, false
}

// match says what Match should.
func (m *model) match(have *model) ([]api.Pair, env.Key, bool) {
	var l []api.Pair
	for _, w := range m.ways() {
		a, _ := m.to(w)
		b, ok := have.to(w)
		if !ok {
			return nil, w[len(w)-1], false
		}
		if a.decl != b.decl {
			l = append(l, api.Pair{A: a.decl, B: b.decl})
		}
	}
	return l, env.Key{}, true
}

// read is the model that a text draws: names with the numbers of what declares them, as "x1 M2(y3)". A word is a value, a cap a structure; what begins with ! is a constructor, with ' a type, with % a signature, with # a functor.
func read(s string) *model {
	m, rest := readParts(s)
	if rest != "" {
		panic("not read: " + rest)
	}
	return m
}

func readParts(s string) (*model, string) {
	m := &model{}
	for {
		s = strings.TrimLeft(s, " ")
		if s == "" || s[0] == ')' {
			return m, s
		}
		name := s[:strings.IndexAny(s, "0123456789")]
		digits := len(name)
		for digits < len(s) && s[digits] >= '0' && s[digits] <= '9' {
			digits++
		}
		b := bind{key: key(name), via: -1}
		b.decl, _ = strconv.Atoi(s[len(name):digits])
		s = s[digits:]
		if s != "" && s[0] == '(' {
			b.parts, s = readParts(s[1:])
			s = s[1:]
		}
		m = m.with(b)
	}
}

// key is the key that a name draws.
func key(s string) env.Key {
	switch c := s[0]; {
	case c == '!':
		return env.Key{Space: api.SpCon, Name: s[1:]}
	case c == '\'':
		return env.Key{Space: api.SpType, Name: s[1:]}
	case c == '%':
		return env.Key{Space: api.SpSig, Name: s[1:]}
	case c == '#':
		return env.Key{Space: api.SpFun, Name: s[1:]}
	case 'A' <= c && c <= 'Z':
		return env.Key{Space: api.SpStr, Name: s}
	}
	return env.Key{Space: api.SpValue, Name: s}
}

// like is a model that has all that m has, in another order, with more besides, and declared elsewhere.
func (m *model) like(r *rolls) *model {
	l := m.bound()
	if m == nil || len(l) == 0 {
		return one(r, []*model{nil, m, read("x7")})
	}
	out := &model{}
	for len(l) > 0 {
		i := r.below(len(l))
		b := l[i]
		l = slices.Delete(l, i, i+1)
		b.decl, b.via, b.parts = r.below(20), r.below(3), b.parts.like(r)
		out = out.with(b)
		if r.below(3) == 0 {
			out = out.with(bind{key: key("other"), decl: r.below(20)})
		}
	}
	return out
}

// rolls is numbers that follow no plain order, the same ones each time.
type rolls uint64

// below is the next number, from 0 to n - 1.
func (r *rolls) below(n int) int {
	*r = *r*6364136223846793005 + 1442695040888963407
	return int(uint64(*r) >> 33 % uint64(n))
}

func one[T any](r *rolls, l []T) T { return l[r.below(len(l))] }

// pool is models made of one another, with few names, so that many match.
func pool(r *rolls, n int) []*model {
	keys := []env.Key{{Space: 1, Name: "x"}, {Space: 2, Name: "x"}, {Space: 4, Name: "x"}, {Space: 4, Name: "M"}, {Space: 5, Name: "M"}, {Space: 6, Name: "M"}, {Space: 0, Name: "M"}}
	l := []*model{nil, {}}
	within := []*model{nil, l[1]}
	for len(l) < n {
		m := one(r, l)
		next := m.with(bind{one(r, keys), r.below(4), r.below(3) - 1, one(r, within), one(r, within)})
		if ways := len(next.ways()); ways < 40 {
			l = append(l, next)
			if ways < 10 {
				within = append(within, next)
			}
		}
	}
	return l
}
