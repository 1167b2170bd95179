package find_test

import (
	"math/rand/v2"
	"slices"
	"strings"
	"testing"

	"oriel/api"
	"oriel/find"
	"oriel/resolve"
	"oriel/unit"
)

// sower makes declarations of a few names, the same ones in several spaces, so that they meet.
type sower struct{ rng *rand.Rand }

// one is one of these.
func (m *sower) one(l ...string) string { return l[m.rng.IntN(len(l))] }

// some is up to most of what is made, with this between each two.
func (m *sower) some(most int, between string, make func() string) string {
	var l []string
	for range m.rng.IntN(most + 1) {
		l = append(l, make())
	}
	return strings.Join(l, between)
}

func (m *sower) low() string { return m.one("x", "y", "z") }
func (m *sower) cap() string { return m.one("A", "B", "C") }

// value is a value's name, now and then a sign.
func (m *sower) value() string { return m.one(m.low(), m.low(), m.low(), "op +", "op -") }

// path is a name, for the most part with no structures ahead of it.
func (m *sower) path(last string) string {
	for m.rng.IntN(3) == 0 {
		last = m.cap() + " . " + last
	}
	return last
}

// sorts is how many sorts of declarations stand in a let, in a struct, in a file.
var sorts = []int{8, 12, 16}

// any is a declaration of any sort that may stand there, with parts so deep in one another.
func (m *sower) any(where, deep int) string { return m.dec(m.rng.IntN(sorts[where]), where, deep) }

// dec is a declaration of that sort.
func (m *sower) dec(sort, where, deep int) string {
	decs := func() string { return m.some(2, " ", func() string { return m.any(where, deep-1) }) }
	switch sort {
	case 0, 1:
		return "val " + m.pat(1) + " = " + m.exp(deep)
	case 2:
		one := func() string { return m.value() + " " + m.atomicPat(1) + " = " + m.exp(deep) }
		return "fun " + one() + m.some(1, "", func() string { return " and " + one() })
	case 3:
		return "type " + m.low() + " = " + m.ty(1)
	case 4:
		return m.data()
	case 5:
		return "open " + m.path(m.cap())
	case 6, 7:
		return "local " + decs() + " in " + decs() + " end"
	case 8, 9, 10, 11:
		return "structure " + m.cap() + m.body(deep)
	case 12, 13, 14:
		return "signature " + m.cap() + " = " + m.sig(deep)
	}
	return "functor " + m.cap() + " ( " + m.cap() + " : " + m.sig(deep) + " )" + m.body(deep)
}

// data is datatypes.
func (m *sower) data() string {
	con := func() string { return m.cap() + m.one("", " of "+m.ty(1)) }
	one := func() string { return m.low() + " = " + con() + m.some(1, "", func() string { return " | " + con() }) }
	return "datatype " + one() + m.some(1, "", func() string { return " and " + one() })
}

// body is what a structure is declared to be.
func (m *sower) body(deep int) string {
	if m.rng.IntN(2) == 0 {
		return " = " + m.str(deep)
	}
	return m.one(" : ", " :> ") + m.sig(deep) + " = " + m.str(deep)
}

func (m *sower) str(deep int) string {
	switch n := m.rng.IntN(10); {
	case n < 3 || deep <= 0:
		return m.path(m.cap())
	case n < 5:
		return m.cap() + " ( " + m.str(deep-1) + " )"
	case n < 6:
		return m.str(deep-1) + m.one(" : ", " :> ") + m.sig(deep-1)
	case n < 8: // it has much that a signature may ask for
		return "struct " + m.some(1, "", func() string { return m.any(1, deep-1) }) + " val x = 1 type x = 'a val y = x datatype y = A structure A = struct val x = y type x = y end end"
	}
	return "struct " + m.some(3, " ", func() string { return m.any(1, deep-1) }) + " end"
}

func (m *sower) sig(deep int) string {
	switch n := m.rng.IntN(8); {
	case n < 3 || deep <= 0:
		return m.cap()
	case n < 4:
		return m.sig(deep-1) + " where type " + m.path(m.low()) + " = " + m.ty(1)
	}
	return "sig " + m.some(3, " ", func() string {
		switch m.rng.IntN(6) {
		case 0, 1:
			return "val " + m.value() + " : " + m.ty(1)
		case 2:
			return "type " + m.low() + m.one("", " = "+m.ty(1))
		case 3:
			return m.data()
		case 4:
			return "structure " + m.cap() + " : " + m.sig(deep-1)
		}
		return "include " + m.sig(deep-1)
	}) + " end"
}

func (m *sower) ty(deep int) string {
	if deep <= 0 || m.rng.IntN(3) > 0 {
		return m.one("'a", "'a "+m.path(m.low()), m.path(m.low()))
	}
	return "( " + m.ty(deep-1) + m.one(" -> ", " * ") + m.ty(deep-1) + " )" + m.one("", " "+m.path(m.low()))
}

func (m *sower) pat(deep int) string {
	switch {
	case deep > 0 && m.rng.IntN(6) == 0:
		return m.low() + " as " + m.pat(deep-1)
	case m.rng.IntN(6) == 0:
		return m.path(m.cap()) + " " + m.atomicPat(deep)
	}
	return m.atomicPat(deep)
}

func (m *sower) atomicPat(deep int) string {
	switch n := m.rng.IntN(8); {
	case n == 0:
		return m.one("_", "1", "( )")
	case n == 1:
		return m.path(m.cap())
	case n < 4 && deep > 0:
		return "( " + m.pat(deep-1) + " , " + m.pat(deep-1) + " )"
	}
	return m.value()
}

func (m *sower) exp(deep int) string {
	if deep <= 0 || m.rng.IntN(3) == 0 {
		return m.one("1", m.path(m.low()), m.path(m.low()), m.path(m.cap()), m.value())
	}
	one := func() string { return m.exp(deep - 1) }
	clause := func() string { return m.pat(1) + " => " + one() }
	switch m.rng.IntN(6) {
	case 0:
		return "( if " + one() + " then " + one() + " else " + one() + " )"
	case 1:
		return "( case " + one() + " of " + clause() + m.some(1, "", func() string { return " | " + clause() }) + " )"
	case 2:
		return "( fn " + clause() + " )"
	case 3, 4:
		return "let " + m.some(3, " ", func() string { return m.any(0, deep-1) }) + " in " + one() + " end"
	}
	return "( " + one() + m.one(" ", " , ", " + ", " - ") + one() + " )"
}

// base is declarations with which most projects begin: others may then mean something.
const base = "val x = 1 type x = 'a datatype y = A | B of x structure A = struct val x = 1 type x = x structure B = struct val y = x end end signature A = sig val x : 'a type x end functor A ( B : A ) = struct open B val y = x end"

// sow is files of n declarations, one behind the other, of which just the last ones, as many as slips, may be refused.
func sow(seed uint64, n, slips int) []api.File {
	m := &sower{rand.New(rand.NewPCG(seed, 14))}
	l := []string{m.one("", base, base, base)}
	for i := range n {
		if m.rng.IntN(5) == 0 {
			l = append(l, "")
		}
		last, sort := &l[len(l)-1], m.rng.IntN(sorts[2])
		was, best := *last, *last
		for tries, found := 0, 0; tries < 40 && found < 3; tries++ {
			*last = was + "\n" + m.dec(sort, 2, 3)
			if i >= n-slips || resolves(l) {
				found++
				best = slices.MaxFunc([]string{best, *last}, func(a, b string) int { return len(a) - len(b) }) // short ones are seldom refused, and say little
			}
		}
		*last = best
	}
	return texts(l...)
}

// resolves says whether texts have a graph.
func resolves(l []string) bool {
	u, fault := unit.Load(texts(l...)...)
	if fault.Err == api.OK {
		_, fault = resolve.Resolve(u)
	}
	return fault.Err == api.OK
}

// count adds how many nodes of each kind u has.
func count(u *unit.Unit, met map[int]int) {
	var walk func(n api.Node)
	walk = func(n api.Node) {
		met[n.Kind]++
		for _, kid := range n.Kids {
			walk(kid)
		}
	}
	for _, n := range u.Nodes() {
		walk(n)
	}
}

// P14.1, P14.2, P14.4: of made projects all is found as Resolve makes it, wherever they are refused.
func TestMade(t *testing.T) {
	t.Parallel()
	met, kinds := map[api.Errno]int{}, map[int]int{}
	links, opened, further := 0, 0, 0
	for seed := range uint64(600) {
		u := load(t, sow(seed, 10, int(seed%4/2))...)
		g, fault := hold(t, u)
		met[fault.Err]++
		links += len(g.Links)
		for _, via := range g.Via {
			opened += min(via+1, 1)
		}
		if fault.Err == api.OK {
			count(u, kinds)
			further += len(u.Files())
		}
	}
	if met[api.OK] < 300 || met[api.ErrUnbound] < 150 || met[api.ErrMatch] < 3 || links < 300 || opened < 300 || further < 800 {
		t.Error(met, links, opened, further)
	}
	for kind := api.NdFile; kind <= api.NdProd; kind++ {
		if kinds[kind] < 15 && kind != api.NdText {
			t.Error("too few of the kind", kind, kinds[kind])
		}
	}
}

// names is where a text has names that may be changed for others.
func names(s string) []api.Span {
	var at []api.Span
	for i := 0; i < len(s); {
		n := strings.IndexAny(s[i:]+" ", " \n")
		if l := others(s[i : i+n]); slices.Contains(l, s[i:i+n]) {
			at = append(at, api.Span{At: i, End: i + n})
		}
		i += n + 1
	}
	return at
}

// P14.1, P14.2, P1: likewise with some names changed for others.
func TestChanged(t *testing.T) {
	t.Parallel()
	rng := rand.New(rand.NewPCG(1, 14))
	met := map[api.Errno]int{}
	for seed := range uint64(250) {
		files := sow(seed, 8, 0)
		for range 16 {
			turned := slices.Clone(files)
			for range 1 + rng.IntN(2) {
				f := &turned[rng.IntN(len(turned))]
				if at := names(f.Text); len(at) > 0 {
					p := at[rng.IntN(len(at))]
					l := others(f.Text[p.At:p.End])
					f.Text = f.Text[:p.At] + l[rng.IntN(len(l))] + f.Text[p.End:]
				}
			}
			u := load(t, turned...)
			_, fault := hold(t, u)
			met[fault.Err]++
			snapshot(u, find.New(u))
		}
	}
	if met[api.OK] < 1000 || met[api.ErrUnbound] < 500 || met[api.ErrTwice] < 80 || met[api.ErrMatch] < 30 {
		t.Error(met)
	}
}

// P14.1: each use that is given a name that nothing has is not found; all ahead of it is.
func TestEachUse(t *testing.T) {
	t.Parallel()
	uses := 0
	for seed := range uint64(80) {
		files := sow(seed, 8, 0)
		u := load(t, files...)
		was := find.New(u).Edges()
		for occ, o := range u.Occs() {
			if o.Decl {
				continue
			}
			uses++
			text := files[o.File].Text
			other := map[string]string{"x": "q'", "A": "Q'", "+": "<<"}[others(text[o.At:o.End])[0]]
			turned := slices.Clone(files)
			turned[o.File].Text = text[:o.At] + other + text[o.End:]
			f := find.New(load(t, turned...))
			edges := f.Edges()
			if decl, ok := f.Binds(occ); decl != 0 || ok || edges[occ] != -1 {
				t.Fatalf("%q: %d means %d %v", turned, occ, decl, ok)
			}
			if links, ok := f.Links(); len(links) != 0 || ok {
				t.Fatalf("%q: %v", turned, links)
			}
			if !slices.Equal(edges[:occ], was[:occ]) {
				t.Fatalf("%q: %d, not %d", turned, edges[:occ], was[:occ])
			}
		}
	}
	if uses < 1500 {
		t.Error(uses)
	}
}

// P14.3: the kinds of the nodes in which each occurrence stands.
func TestAround(t *testing.T) {
	t.Parallel()
	for seed := range uint64(200) {
		u := load(t, sow(seed, 8, 2)...)
		f := find.New(u)
		met := 0
		var walk func(n api.Node, around []int)
		walk = func(n api.Node, around []int) {
			around = append([]int{n.Kind}, around...)
			for _, occ := range n.Occs {
				met++
				if got := f.Around(occ); !slices.Equal(got, around) {
					t.Fatalf("%q: Around(%d) = %d, not %d", u.Files(), occ, got, around)
				}
			}
			for _, kid := range n.Kids {
				walk(kid, around)
			}
		}
		for _, n := range u.Nodes() {
			walk(n, nil)
		}
		if met != len(u.Occs()) {
			t.Fatal(met)
		}
	}
	d := draw(t, "structure M#1 = struct val x#2 = let fun f#3 ( y#4 , _ ) = y@4 !+ 1 in 1 end end")
	want := []int{api.NdInfix, api.NdFbind, api.NdFun, api.NdDecs, api.NdLet, api.NdVal, api.NdStruct, api.NdStr, api.NdFile}
	f := find.New(d.unit)
	if got := f.Around(d.at(t, d.mark)); !slices.Equal(got, want) {
		t.Error(got)
	}
	want = append([]int{api.NdBind, api.NdTuple}, want[1:]...)
	if got := f.Around(d.number(t, "4")); !slices.Equal(got, want) {
		t.Error(got)
	}
}
