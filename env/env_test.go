package env_test

import (
	"math"
	"slices"
	"strconv"
	"testing"

	"oriel/env"
)

// value is the key of a value.
func value(s string) env.Key { return env.Key{1, s} }

// of is the environment in which each name, one behind the other, is a value that the occurrence of its place declares.
func of(names ...string) *env.Env {
	var e *env.Env
	for i, s := range names {
		e = e.With(value(s), env.Item{Decl: i, Via: -1})
	}
	return e
}

// told is what e has, as one text.
func told(e *env.Env) string {
	s := ""
	for _, k := range e.Keys() {
		x, _ := e.Find(k)
		s += k.Name + strconv.Itoa(x.Decl) + " "
	}
	return s
}

// is holds what e has against its text.
func is(t *testing.T, what string, e *env.Env, want string) {
	t.Helper()
	if s := told(e); s != want {
		t.Errorf("%s: %q, not %q", what, s, want)
	}
}

// The chapter's example.
func TestExample(t *testing.T) {
	var e *env.Env
	first := e.With(value("x"), env.Item{Decl: 1})
	last := first.With(value("y"), env.Item{Decl: 2}).With(value("x"), env.Item{Decl: 3})
	is(t, "all", last, "y2 x3 ")
	is(t, "since the first", last.Since(first), "y2 x3 ")
}

// P11.1 to P11.6: environments that are made of one another in all ways, each of which is held against all others.
func TestMade(t *testing.T) {
	r := rolls(11)
	for range 60 {
		l := pool(&r, 60)
		for _, m := range l {
			m.check(t)
			for _, f := range l {
				m.since(f).check(t)
				if got, want := m.env.Same(f.env), m.same(f); got != want {
					t.Fatalf("%v and %v: the same: %v", m.all, f.all, got)
				}
			}
		}
		for range 40 {
			m, f := one(&r, l), one(&r, l)
			m.plus(f).check(t)
			m.open(f, r.below(5)-1).check(t)
		}
		for _, m := range l { // older ones are what they were
			m.check(t)
		}
	}
}

// P11.1, P11.2, P11.5: all rows of up to six bindings of three keys, and all that each was made of.
func TestRows(t *testing.T) {
	keys := []env.Key{value("x"), value("y"), {2, "x"}}
	var grow func(row []*model)
	grow = func(row []*model) {
		m := row[len(row)-1]
		m.check(t)
		for _, base := range row {
			m.since(base).check(t)
		}
		if len(row) > 6 {
			return
		}
		for i, k := range keys {
			grow(append(slices.Clone(row), m.with(bind{k, len(row), i - 1, nil, m})))
		}
	}
	grow([]*model{none()})
}

// P11.1: an item is found as it was given, whatever it is; a key that is no name, and one whose item is zero, are bound as others are.
func TestFindAsGiven(t *testing.T) {
	parts, param := of("p"), of("q")
	items := []env.Item{{}, {Decl: -1, Via: -1}, {5, 7, parts, param}, {math.MinInt, math.MaxInt, nil, param}}
	for _, k := range append(someKeys(), env.Key{math.MaxInt, "x"}, env.Key{math.MinInt, "val x = 1"}) {
		for _, x := range items {
			for _, base := range []*env.Env{nil, {}, of("x", "y", "x")} {
				if got, ok := base.With(k, x).Find(k); got != x || !ok {
					t.Errorf("%v: %v %v, not %v", k, got, ok, x)
				}
			}
		}
	}
	for _, e := range []*env.Env{nil, {}, of("y")} {
		if x, ok := e.Find(value("x")); x != (env.Item{}) || ok {
			t.Error(x, ok)
		}
	}
}

// P11.2: of what Since is all, and of what it is the bindings behind.
func TestSince(t *testing.T) {
	base := of("x", "y")
	again := of("x", "y")
	e := base.With(value("x"), env.Item{Decl: 5}).With(value("z"), env.Item{Decl: 6})
	other := base.With(value("x"), env.Item{Decl: 5})
	all := "y1 x5 z6 "
	is(t, "itself", e.Since(e), "")
	is(t, "base", e.Since(base), "x5 z6 ")
	is(t, "none", e.Since(nil), all)
	is(t, "an empty one", e.Since(&env.Env{}), all)
	is(t, "one that says the same", e.Since(again), all)
	is(t, "one that was made of base, too", e.Since(other), all)
	is(t, "a younger one", base.Since(e), "x0 y1 ")
	is(t, "of none", (*env.Env)(nil).Since(base), "")
	is(t, "of an empty one", (&env.Env{}).Since(base), "")
	if e.Since(e) != nil {
		t.Error("nil is the one without any")
	}

	plus := base.Plus(of("z", "x", "z"))
	is(t, "behind Plus", plus.Since(base), "x1 z2 ")
	is(t, "behind Plus and With", plus.With(value("y"), env.Item{Decl: 9}).Since(base), "x1 z2 y9 ")
	open := base.Open(of("z", "x", "z"), 3)
	is(t, "behind Open", open.Since(base), "x1 z2 ")
	is(t, "behind Open and Plus", open.Plus(of("x")).Since(base), "z2 x0 ")
	is(t, "behind Plus of nothing", base.Plus(nil).Since(base), "")
	is(t, "behind Open of nothing", base.Open(nil, 1).With(value("z"), env.Item{}).Since(base), "z0 ")
}

// P11.2: what was made of another's bindings, but not of that itself, does not begin with it.
func TestSinceWhatIsNotBase(t *testing.T) {
	base := of("x", "y")
	e := base.With(value("z"), env.Item{Decl: 2})
	var none *env.Env
	for what, made := range map[string]*env.Env{
		"Plus of none":     none.Plus(e),
		"Plus of an empty": (&env.Env{}).Plus(e),
		"Open of none":     none.Open(e, 1),
		"Since of none":    e.Since(none),
	} {
		is(t, what, made.Since(base), "x0 y1 z2 ")
		is(t, what, made.Since(e), "x0 y1 z2 ")
		is(t, what, made.With(value("x"), env.Item{Decl: 7}).Since(base), "y1 z2 x7 ")
		is(t, what, e.Since(made), "x0 y1 z2 ")
	}
	back := e.Since(base)
	is(t, "what it has behind base", back.Since(base), "z2 ")
	is(t, "what it has behind base", back.With(value("x"), env.Item{}).Since(e), "z2 x0 ")
	is(t, "base, and e behind it", base.Plus(e).Since(e), "x0 y1 z2 ")
	is(t, "base, and e behind it", base.Plus(e).Since(base), "x0 y1 z2 ")
	is(t, "e, and base behind it", e.Plus(base).Since(base), "z2 x0 y1 ")
	is(t, "e, and base behind it", e.Plus(base).Since(e), "x0 y1 ")
}

// P11.2: Plus keeps each binding as it is, even one through an open.
func TestPlusKeepsItems(t *testing.T) {
	parts := of("p")
	f := of("a").Open(of("b"), 4).With(value("c"), env.Item{8, 9, parts, parts})
	for _, e := range []*env.Env{nil, {}, of("b", "q"), f} {
		sum := e.Plus(f)
		for k, want := range f.Table() {
			if x, ok := sum.Find(k); x != want || !ok {
				t.Errorf("%v: %v, not %v", k, x, want)
			}
		}
	}
	is(t, "both", of("b", "q").Plus(f), "q1 a0 b0 c8 ")
	is(t, "twice", f.Plus(f), "a0 b0 c8 ")
	if e := (*env.Env)(nil).Plus(&env.Env{}); e != nil {
		t.Error("nil is the one without any")
	}
}

// P11.3, P11.6: only what is bound is opened, with another Via, and all else as it was.
func TestOpen(t *testing.T) {
	inner, param := of("p"), of("q")
	parts := of("x", "y", "x").With(env.Key{4, "M"}, env.Item{7, 2, inner, param})
	e := of("y", "z").With(env.Key{4, "x"}, env.Item{Decl: 6, Via: 1})
	for _, via := range []int{0, -1, 3, math.MaxInt, math.MinInt} {
		open := e.Open(parts, via)
		is(t, "opened", open, "z1 x6 y1 x2 M7 ")
		for k, x := range parts.Table() {
			x.Via = via
			if got, ok := open.Find(k); got != x || !ok {
				t.Errorf("%v: %v, not %v", k, got, x)
			}
		}
		for _, k := range []env.Key{value("z"), {4, "x"}} {
			want, _ := e.Find(k)
			if got, ok := open.Find(k); got != want || !ok {
				t.Errorf("%v: %v, not %v", k, got, want)
			}
		}
		is(t, "no bindings but those that are bound", open.Since(e), "y1 x2 M7 ")
	}
	for k, x := range parts.Table() {
		if want := map[bool]int{true: 2, false: -1}[k.Space == 4]; x.Via != want {
			t.Error("the parts are not what they were", k, x)
		}
	}
	is(t, "of none", (*env.Env)(nil).Open(parts, 0), "y1 x2 M7 ")
	is(t, "none", e.Open(nil, 0), "y0 z1 x6 ")
	is(t, "itself", e.Open(e, 0), "y0 z1 x6 ")
	if o := (*env.Env)(nil).Open(nil, 0); o != nil {
		t.Error("nil is the one without any")
	}
}

// P11.4: two that differ in just one thing, wherever it lies, and two that differ in what does not matter.
func TestSame(t *testing.T) {
	str := env.Key{4, "M"}
	lays := map[string]func(*env.Env) *env.Env{
		"itself": func(e *env.Env) *env.Env { return e },
		"behind": func(e *env.Env) *env.Env { return of("a").Plus(e) },
		"parts":  func(e *env.Env) *env.Env { return of("a").With(str, env.Item{5, 1, e, nil}) },
		"param":  func(e *env.Env) *env.Env { return of("a").With(str, env.Item{5, 1, of("b"), e}) },
		"deep": func(e *env.Env) *env.Env {
			in := of("b").With(str, env.Item{Decl: 6, Param: e})
			return of("a").With(str, env.Item{Decl: 5, Parts: in}).With(value("z"), env.Item{})
		},
	}
	e := of("x", "y").With(str, env.Item{Decl: 2, Via: 0})
	others := map[string]*env.Env{
		"no binding":    nil,
		"one less":      of("x", "y"),
		"one more":      e.With(value("z"), env.Item{Decl: 3}),
		"another order": of("y").With(value("x"), env.Item{}).With(str, env.Item{Decl: 2}),
		"a later one":   e.With(value("x"), env.Item{}),
		"another name":  of("x", "z").With(str, env.Item{Decl: 2}),
		"another space": of("x", "y").With(env.Key{5, "M"}, env.Item{Decl: 2}),
		"another decl":  of("x", "y").With(str, env.Item{Decl: 3}),
		"with parts":    of("x", "y").With(str, env.Item{Decl: 2, Parts: of("x")}),
		"with a param":  of("x", "y").With(str, env.Item{Decl: 2, Param: of("x")}),
	}
	alike := map[string]*env.Env{
		"through an open": of("x", "y").With(str, env.Item{Decl: 2, Via: 9}),
		"opened":          (*env.Env)(nil).Open(e, 4),
		"bound anew":      of("x", "x").With(value("x"), env.Item{}).With(value("y"), env.Item{Decl: 1}).With(str, env.Item{Decl: 2}),
		"with no parts":   of("x", "y").With(str, env.Item{Decl: 2, Parts: &env.Env{}, Param: e.Since(e)}),
	}
	for where, lay := range lays {
		for what, f := range others {
			if a, b := lay(e), lay(f); a.Same(b) || b.Same(a) {
				t.Errorf("%s: %s: told to be the same", where, what)
			}
		}
		for what, f := range alike {
			if a, b := lay(e), lay(f); !a.Same(b) || !b.Same(a) || !a.Same(a) {
				t.Errorf("%s: %s: told not to be the same", where, what)
			}
		}
	}
	var none *env.Env
	if !none.Same(nil) || !none.Same(&env.Env{}) || !(&env.Env{}).Same(nil) {
		t.Error("none is the same as none")
	}
}

// nested is parts within parts, n deep, each of which is there twice, with the innermost as told.
func nested(n, innermost int) *env.Env {
	e := (*env.Env)(nil).With(value("x"), env.Item{Decl: innermost})
	for range n {
		x := env.Item{Decl: 1, Parts: e, Param: e}
		e = (*env.Env)(nil).With(env.Key{4, "A"}, x).With(env.Key{4, "B"}, x)
	}
	return e
}

// P1, P11.4: parts that are shared many times over, and as deep as may be, are held against one another.
func TestSameEnds(t *testing.T) {
	const deep = 1 << 16
	a, b, c := nested(deep, 1), nested(deep, 1), nested(deep, 2)
	if !a.Same(b) || !b.Same(a) || !a.Same(a) {
		t.Error("not the same")
	}
	if a.Same(c) || c.Same(a) || a.Same(nested(deep-1, 1)) {
		t.Error("the same")
	}
	var e env.Env // one that has been put where it is its own part
	e = *(*env.Env)(nil).With(value("x"), env.Item{Parts: &e})
	f := e
	if !e.Same(&f) {
		t.Error("not the same")
	}
}

// P11.4: the first key that is there ahead, too.
func TestTwice(t *testing.T) {
	x, y, z := value("x"), value("y"), value("z")
	for _, c := range []struct {
		l  []env.Key
		at int
		ok bool
	}{
		{nil, 0, false},
		{[]env.Key{x}, 0, false},
		{[]env.Key{x, y, z}, 0, false},
		{[]env.Key{x, {2, "x"}, {-1, "x"}, {1, "X"}, {1, ""}, {1, "x "}}, 0, false},
		{[]env.Key{x, x}, 1, true},
		{[]env.Key{x, y, x}, 2, true},
		{[]env.Key{x, y, y, x}, 2, true},
		{[]env.Key{x, y, z, z, y, x, x}, 3, true},
		{[]env.Key{y, x, x, x}, 2, true},
		{[]env.Key{{}, x, {}}, 2, true},
	} {
		was := slices.Clone(c.l)
		if at, ok := env.Twice(c.l...); at != c.at || ok != c.ok {
			t.Errorf("%v: %d %v", c.l, at, ok)
		}
		if !slices.Equal(c.l, was) {
			t.Errorf("%v: changed", was)
		}
	}
	keys := someKeys()
	if at, ok := env.Twice(keys...); at != 0 || ok {
		t.Error(at, ok)
	}
	for i := range keys {
		if at, ok := env.Twice(append(keys, keys[i])...); at != len(keys) || !ok {
			t.Error(i, at, ok)
		}
	}
}

// Rule 3: what is handed out may be turned, and changes nothing.
func TestAnswersAreTheCallersOwn(t *testing.T) {
	e := of("x", "y", "x", "z")
	keys, table := e.Keys(), e.Table()
	keys[0], keys[1] = value("a"), value("b")
	_ = append(keys[:1], value("c"))
	table[value("x")] = env.Item{Decl: 99}
	delete(table, value("y"))
	is(t, "turned", e, "y1 x2 z3 ")
	if l := e.Table(); len(l) != 3 || l[value("x")].Decl != 2 {
		t.Error(l)
	}
	for _, made := range []*env.Env{e.Plus(nil), e.Open(nil, 0), e.Since(nil), e.With(value("x"), env.Item{})} {
		*made = env.Env{}
	}
	is(t, "overwritten", e, "y1 x2 z3 ")
}

// P1: all calls of no environment, and of one that has no bindings.
func TestNoBindings(t *testing.T) {
	for _, e := range []*env.Env{nil, {}} {
		x, ok := e.Find(env.Key{})
		if x != (env.Item{}) || ok || len(e.Keys()) != 0 || len(e.Table()) != 0 {
			t.Error(x, ok, e.Keys(), e.Table())
		}
		if e.Since(e) != nil || e.Plus(e) != nil || e.Open(e, 1) != nil || !e.Same(e) {
			t.Error("bindings from nowhere")
		}
		is(t, "with one", e.With(value("x"), env.Item{Decl: 3}), "x3 ")
	}
}

// P1, P11.5: as many names as a big project has, in orders that rise, fall, and mix, each found among all.
func TestManyNames(t *testing.T) {
	const n = 100000
	for what, number := range map[string]func(i int) int{
		"rising":  func(i int) int { return i },
		"falling": func(i int) int { return n - i },
		"mixed":   func(i int) int { return i * 7919 % n },
	} {
		key := func(i int) env.Key { return env.Key{number(i) % 6, strconv.Itoa(1000000 + number(i))} }
		var e, half *env.Env
		for i := range n {
			if i == n/2 {
				half = e
			}
			e = e.With(key(i), env.Item{Decl: i})
			if x, ok := e.Find(key(0)); x.Decl != 0 || !ok {
				t.Fatal(what, i, x, ok)
			}
		}
		behind := e.Since(half)
		all := half.Plus(behind)
		for i := range n {
			if x, ok := e.Find(key(i)); x.Decl != i || !ok {
				t.Fatal(what, i, x, ok)
			}
			if _, ok := half.Find(key(i)); ok != (i < n/2) {
				t.Fatal(what, i, ok)
			}
			if _, ok := behind.Find(key(i)); ok != (i >= n/2) {
				t.Fatal(what, i, ok)
			}
		}
		if !all.Same(e) || len(all.Keys()) != n || len(all.Table()) != n {
			t.Fatal(what)
		}
	}
}
