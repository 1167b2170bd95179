package match_test

import (
	"slices"
	"strconv"
	"testing"

	"oriel/api"
	"oriel/env"
	"oriel/match"
)

// pairs is pairs told as their numbers, one behind the other.
func pairs(l ...int) []api.Pair {
	var p []api.Pair
	for i := 0; i < len(l); i += 2 {
		p = append(p, api.Pair{A: l[i], B: l[i+1]})
	}
	return p
}

// P12.1: links, in the order of the signature's keys, and of parts right behind their structure.
func TestMatchLinks(t *testing.T) {
	for _, c := range []struct {
		spec, have string
		links      []api.Pair
	}{
		{"", "", nil},
		{"", "x1 M2(y3)", nil},
		{"x0", "x1", pairs(0, 1)},
		{"x1", "x0", pairs(1, 0)},
		{"x0", "x0", nil},
		{"x0 y1", "x0 y2", pairs(1, 2)},
		{"x0 y1", "y2 x3", pairs(0, 3, 1, 2)},
		{"x0 y1", "z2 y3 x4 w5", pairs(0, 4, 1, 3)},
		{"x0 y1 x2", "x3 y4", pairs(1, 4, 2, 3)},
		{"x0", "x1 y2 x3", pairs(0, 3)},
		{"x0", "x1 y2 x0", nil},
		{"x0 !x1 'x2", "'x3 x4 !x5", pairs(0, 4, 1, 5, 2, 3)},
		{"M0(x1 y2) z3", "z4 M5(y6 x7 w8)", pairs(0, 5, 1, 7, 2, 6, 3, 4)},
		{"M0(N1(x2) y3) x4", "x5 M6(y7 N8(x9))", pairs(0, 6, 1, 8, 2, 9, 3, 7, 4, 5)},
		{"M0(x1)", "M0(x2)", pairs(1, 2)},
		{"M0(x1)", "M2(x1)", pairs(0, 2)},
		{"M0(x1 y2 x3)", "M4(x5 y6 x7)", pairs(0, 4, 2, 6, 3, 7)},
		{"M0 y1", "M2(x3) y4", pairs(0, 2, 1, 4)},
		{"M0(x1) M2", "M3", pairs(2, 3)},
		{"M0(x1)", "M2 M3(x4)", pairs(0, 3, 1, 4)},
		{"%M0(x1)", "%M2(x3)", pairs(0, 2)},
		{"%M0(x1)", "%M2", pairs(0, 2)},
		{"#M0(x1)", "#M2(x3)", pairs(0, 2)},
		{"#M0(x1)", "#M2", pairs(0, 2)},
		{"%M0(x1) M2(x3) #M4(x5)", "#M6 M7(x8) %M9", pairs(0, 9, 2, 7, 3, 8, 4, 6)},
		{"M0(%S1(x2) #F3(y4))", "M5(%S6 #F7)", pairs(0, 5, 1, 6, 3, 7)},
		{"M0(x1) N2(x1)", "M3(x4) N5(x4)", pairs(0, 3, 1, 4, 2, 5, 1, 4)},
		{"x0 y0", "x1 y1", pairs(0, 1, 0, 1)},
		{"x0 y1", "x1 y0", pairs(0, 1, 1, 0)},
	} {
		l, k, ok := match.Match(read(c.spec).env, read(c.have).env)
		if !slices.Equal(l, c.links) || k != (env.Key{}) || !ok {
			t.Errorf("%q with %q: %v %v %v", c.spec, c.have, l, k, ok)
		}
	}
}

// P12.1: the first key that is missed, and no links, not even of what is bound ahead of it.
func TestMatchMisses(t *testing.T) {
	for _, c := range []struct{ spec, have, key string }{
		{"x0", "", "x"},
		{"x0", "y0 x'1", "x"},
		{"x0", "!x0", "x"},
		{"!x0", "x0", "!x"},
		{"'x0", "x0 !x1", "'x"},
		{"M0", "%M0 #M1", "M"},
		{"%M0", "M0 #M1", "%M"},
		{"#M0", "%M0 M1", "#M"},
		{"x0 y1", "x2", "y"},
		{"x0 y1", "y2", "x"},
		{"x0 y1", "", "x"},
		{"x0 y1 x2", "", "y"},
		{"x0 y1 x2 z3", "y4", "x"},
		{"M0(x1)", "M0", "x"},
		{"M0(x1)", "M0(y1)", "x"},
		{"M0(x1) y2", "M3", "x"},
		{"M0(x1) y2", "M3(x4)", "y"},
		{"M0(x1) y2", "y3", "M"},
		{"y2 M0(x1)", "M3", "y"},
		{"M0(N1(x2) y3) z4", "M5(N6)", "x"},
		{"M0(N1(x2) y3) z4", "M5(N6(x7))", "y"},
		{"M0(N1(x2) y3) z4", "M5(y7)", "N"},
		{"M0(N1(%S2))", "M3(N4(S5))", "%S"},
		{"M0(x1) N2(y3)", "M4(x5) N6(x7)", "y"},
		{"M0(x1)", "M2(x3) M4", "x"},
		{"M0(x1)", "x2 M3(X4)", "x"},
	} {
		l, k, ok := match.Match(read(c.spec).env, read(c.have).env)
		if len(l) != 0 || k != key(c.key) || ok {
			t.Errorf("%q with %q: %v %v %v", c.spec, c.have, l, k, ok)
		}
	}
}

// P12.1: through which opens names are bound, and what functors' parameters have, does not matter.
func TestMatchViaAndParam(t *testing.T) {
	param := read("x5")
	for _, c := range []string{"x", "M", "%S", "#F"} {
		for _, a := range []bind{{via: -1}, {via: 3}, {via: -1, param: param}} {
			for _, b := range []bind{{via: 0}, {via: -1}, {via: 3, param: read("y6")}} {
				a.key, a.decl, b.key, b.decl = key(c), 1, key(c), 2
				l, k, ok := match.Match((&model{}).with(a).env, (&model{}).with(b).env)
				if !slices.Equal(l, pairs(1, 2)) || k != (env.Key{}) || !ok {
					t.Errorf("%v %v: %v %v %v", a, b, l, k, ok)
				}
			}
		}
	}
	opened := (*env.Env)(nil).Open(read("x1 M2(y3)").env, 7)
	if l, _, ok := match.Match(read("x4 M5(y6)").env, opened); !slices.Equal(l, pairs(4, 1, 5, 2, 6, 3)) || !ok {
		t.Error(l, ok)
	}
}

// P12.1: keys that are no names, and numbers of no occurrences, are matched as others are.
func TestMatchAnyKeysAndDecls(t *testing.T) {
	const least, most = -1 << 63, 1<<63 - 1
	for _, k := range []env.Key{{}, {Space: least, Name: "\xff"}, {Space: most}, {Space: 4}, {Space: -4, Name: "val x"}} {
		for _, p := range pairs(0, 0, 0, -1, least, most, most, least, -1, -1) {
			spec := (*env.Env)(nil).With(k, env.Item{Decl: p.A})
			have := (*env.Env)(nil).With(k, env.Item{Decl: p.B})
			var want []api.Pair
			if p.A != p.B {
				want = []api.Pair{p}
			}
			if l, _, ok := match.Match(spec, have); !slices.Equal(l, want) || !ok {
				t.Error(k, p, l, ok)
			}
			if l, missed, ok := match.Match(spec, nil); len(l) != 0 || missed != k || ok {
				t.Error(k, p, l, missed, ok)
			}
		}
	}
}

// P12.1, P12.4, P12.5: made environments, each with each other.
func TestMatchMade(t *testing.T) {
	r := rolls(12)
	many, missed := 0, 0
	for range 40 {
		l := pool(&r, 50)
		matches := make([][]bool, len(l))
		for i, spec := range l {
			for _, have := range l {
				links, k, ok := match.Match(spec.it(), have.it())
				want, wantKey, wantOk := spec.match(have)
				if !slices.Equal(links, want) || k != wantKey || ok != wantOk {
					t.Fatalf("%v with %v: %v %v %v", spec.list(), have.list(), links, k, ok)
				}
				matches[i] = append(matches[i], ok)
				if !ok {
					missed++
				}
			}
			if links, _, ok := match.Match(spec.it(), spec.it()); len(links) != 0 || !ok {
				t.Fatalf("%v with itself: %v %v", spec.list(), links, ok)
			}
			for range 5 {
				have := spec.like(&r)
				links, k, ok := match.Match(spec.it(), have.it())
				if want, _, _ := spec.match(have); !slices.Equal(links, want) || k != (env.Key{}) || !ok {
					t.Fatalf("%v with %v: %v %v %v", spec.list(), have.list(), links, k, ok)
				}
				if len(links) > 3 {
					many++
				}
			}
		}
		for a := range l {
			for b := range l {
				for c := range l {
					if matches[a][b] && matches[b][c] && !matches[a][c] {
						t.Fatalf("%v, %v, %v", l[a].list(), l[b].list(), l[c].list())
					}
				}
			}
		}
	}
	if many < 1000 || missed < 1000 {
		t.Error("too few were of worth", many, missed)
	}
}

// nested is parts within parts, n deep, each of which is there twice; all structures are declared by one occurrence.
func nested(n, decl int, innermost *env.Env) *env.Env {
	e := innermost
	for range n {
		x := env.Item{Decl: decl, Parts: e}
		e = (*env.Env)(nil).With(key("A"), x).With(key("B"), x)
	}
	return e
}

// P1: parts that are shared many times over are matched without going through each of them, where no links are told of them.
func TestMatchShared(t *testing.T) {
	const deep = 1 << 16
	a, b := nested(deep, 1, read("x0").env), nested(deep, 1, read("x0").env)
	for _, have := range []*env.Env{a, b} {
		if l, k, ok := match.Match(a, have); len(l) != 0 || k != (env.Key{}) || !ok {
			t.Error(len(l), k, ok)
		}
	}
	other := nested(deep, 2, read("y0").env)
	if l, k, ok := match.Match(a, other); len(l) != 0 || k != key("x") || ok {
		t.Error(len(l), k, ok)
	}
	linked := nested(deep, 2, read("x3").env)
	behind := a.With(key("z"), env.Item{})
	if l, k, ok := match.Match(behind, linked); len(l) != 0 || k != key("z") || ok {
		t.Error(len(l), k, ok)
	}
	if l, k, ok := match.Match(a, nested(deep-1, 2, read("x3").env)); len(l) != 0 || k != key("A") || ok {
		t.Error(len(l), k, ok)
	}
}

// P12.1: links of what is shared are told wherever it stands.
func TestMatchSharedLinks(t *testing.T) {
	var l []api.Pair
	spec, have := read("x0 y1").env, read("y3 x4").env
	l = pairs(0, 4, 1, 3)
	for n := range 15 {
		got, k, ok := match.Match(nested(n, 5, spec), nested(n, 6, have))
		if !slices.Equal(got, l) || k != (env.Key{}) || !ok {
			t.Fatal(n, len(got), k, ok)
		}
		l = slices.Concat(pairs(5, 6), l, pairs(5, 6), l)
	}
}

// P1: parts as deep as may be, with links all the way, and an environment that has been put where it is its own part.
func TestMatchDeep(t *testing.T) {
	const deep = 1 << 16
	spec, have := read("x0").env, read("x1").env
	var want []api.Pair
	for i := range deep {
		spec = (*env.Env)(nil).With(key("A"), env.Item{Decl: i, Parts: spec})
		have = (*env.Env)(nil).With(key("A"), env.Item{Decl: -1, Parts: have})
		want = append(want, api.Pair{A: i, B: -1})
	}
	slices.Reverse(want)
	if l, k, ok := match.Match(spec, have); !slices.Equal(l, append(want, api.Pair{A: 0, B: 1})) || k != (env.Key{}) || !ok {
		t.Error(len(l), k, ok)
	}
	var e, f env.Env
	e = *(*env.Env)(nil).With(key("A"), env.Item{Parts: &e})
	f = *(*env.Env)(nil).With(key("A"), env.Item{Decl: 1, Parts: &f})
	if l, k, ok := match.Match(&e, &e); len(l) != 0 || k != (env.Key{}) || !ok {
		t.Error(l, k, ok)
	}
	if _, k, ok := match.Match(&e, &f); k != (env.Key{}) || !ok {
		t.Error(k, ok)
	}
	if _, k, ok := match.Match(e.With(key("x"), env.Item{}), &f); k != key("x") || ok {
		t.Error(k, ok)
	}
}

// P1: as many names as a big project has.
func TestMatchWide(t *testing.T) {
	const n = 100000
	var spec, have *env.Env
	var want []api.Pair
	for i := range n {
		spec = spec.With(key("x"+strconv.Itoa(i)), env.Item{Decl: i})
		have = have.With(key("x"+strconv.Itoa(i*7919%n)), env.Item{Decl: n + i*7919%n})
		want = append(want, api.Pair{A: i, B: n + i})
	}
	if l, _, ok := match.Match(spec, have); !slices.Equal(l, want) || !ok {
		t.Error(len(l), ok)
	}
	last := key("y")
	if l, k, ok := match.Match(spec.With(last, env.Item{}), have); len(l) != 0 || k != last || ok {
		t.Error(len(l), k, ok)
	}
}

// P1: environments that no call made.
func TestMatchOfNone(t *testing.T) {
	x := read("x0 M1(y2)").env
	for _, none := range []*env.Env{nil, {}} {
		for _, have := range []*env.Env{nil, {}, x} {
			if l, k, ok := match.Match(none, have); len(l) != 0 || k != (env.Key{}) || !ok {
				t.Error(l, k, ok)
			}
		}
		if l, k, ok := match.Match(x, none); len(l) != 0 || k != key("x") || ok {
			t.Error(l, k, ok)
		}
	}
}

// P2, rule 3: environments stay what they are, and links are the caller's own.
func TestMatchKeepsNothing(t *testing.T) {
	spec, have := read("x0 M1(y2) z3"), read("M4(y5 w6) z7 x8")
	want := pairs(0, 8, 1, 4, 2, 5, 3, 7)
	for range 2 {
		l, _, ok := match.Match(spec.env, have.env)
		if !slices.Equal(l, want) || !ok {
			t.Fatal(l, ok)
		}
		clear(l)
		_ = append(l[:1], api.Pair{A: 9, B: 9})
		if _, _, ok := match.Match(have.env, spec.env); ok {
			t.Error("matched the other way")
		}
	}
	if !spec.env.Same(read("x0 M1(y2) z3").env) || !have.env.Same(read("M4(y5 w6) z7 x8").env) {
		t.Error("changed")
	}
}
