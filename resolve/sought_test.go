package resolve_test

import (
	"math/rand/v2"
	"slices"
	"strings"
	"testing"

	"oriel/api"
	"oriel/resolve"
	"oriel/unit"
)

// hold holds what Resolve tells of u against what is found by looking backward.
func hold(t *testing.T, u *unit.Unit) (api.Graph, api.Fault) {
	t.Helper()
	g, fault := resolve.Resolve(u)
	want, wanted := sought(u)
	if !same(g, want) || fault != wanted {
		t.Fatalf("%q: %v %v, not %v %v", u.Files(), g, fault, want, wanted)
	}
	return g, fault
}

// P13.1: made projects, without slips, with few, and with many, mean what is found by looking backward, and fail where that fails.
func TestMade(t *testing.T) {
	met := map[api.Errno]int{}
	links, opened := 0, 0
	for seed := range uint64(3600) {
		slips := int(seed % 3)
		u := load(t, lay(makeProject(seed, slips), blank)...)
		g, fault := hold(t, u)
		if slips == 0 && fault != (api.Fault{}) {
			t.Fatalf("%q: %v", u.Files(), fault)
		}
		met[fault.Err]++
		links += len(g.Links)
		for _, via := range g.Via {
			opened += min(via+1, 1)
		}
	}
	if met[api.OK] < 2400 || met[api.ErrUnbound] < 600 || met[api.ErrTwice] < 100 || met[api.ErrMatch] < 8 || links < 12000 || opened < 1200 {
		t.Error(met, links, opened)
	}
}

// isName says whether a token is a name, and of which letters.
func isName(token string) (pool []string, ok bool) {
	switch {
	case isSign(token):
		return []string{"+", "-"}, true
	case slices.Contains([]string{"A", "B", "C", "D"}, token):
		return []string{"A", "B", "C", "D"}, true
	case slices.Contains([]string{"x", "y", "z"}, token):
		return []string{"x", "y", "z"}, true
	}
	return nil, false
}

// P13.1: likewise with some names changed for others.
func TestChanged(t *testing.T) {
	rng := rand.New(rand.NewPCG(1, 13))
	met := map[api.Errno]int{}
	for seed := range uint64(900) {
		files := makeProject(seed, 0)
		for range 6 {
			turned := slices.Clone(files)
			for range 1 + rng.IntN(3) {
				i := rng.IntN(len(turned))
				turned[i] = changeName(rng, turned[i])
			}
			_, fault := hold(t, load(t, lay(turned, blank)...))
			met[fault.Err]++
		}
	}
	if met[api.OK] < 1200 || met[api.ErrUnbound] < 1200 || met[api.ErrTwice] < 120 || met[api.ErrMatch] < 120 {
		t.Error(met)
	}
}

// changeName is the tokens with one name changed for another one.
func changeName(rng *rand.Rand, tokens []string) []string {
	var places []int
	for i, token := range tokens {
		if _, ok := isName(token); ok {
			places = append(places, i)
		}
	}
	if len(places) == 0 {
		return tokens
	}
	tokens = slices.Clone(tokens)
	at := places[rng.IntN(len(places))]
	l, _ := isName(tokens[at])
	tokens[at] = l[rng.IntN(len(l))]
	return tokens
}

// P13.1: each use that is given a name that nothing has is unbound, and nothing ahead of it.
func TestEachUse(t *testing.T) {
	uses := 0
	for seed := uint64(0); seed < 450; seed += 3 {
		files := lay(makeProject(seed, 0), blank)
		u := load(t, files...)
		for occ, o := range u.Occs() {
			if o.Decl {
				continue
			}
			uses++
			text := files[o.File].Text
			turned := slices.Clone(files)
			turned[o.File].Text = text[:o.At] + other(text[o.At:o.End]) + text[o.End:]
			g, fault := resolve.Resolve(load(t, turned...))
			if want := (api.Fault{Err: api.ErrUnbound, File: o.File, At: o.At}); !same(g, api.Graph{}) || fault != want {
				t.Fatalf("%q, %d: %v, not %v", turned, occ, fault, want)
			}
		}
	}
	if uses < 1000 {
		t.Error(uses)
	}
}

// other is a name of the same kind that no made project has.
func other(text string) string {
	switch first := text[0]; {
	case isSign(text):
		return "<<"
	case 'A' <= first && first <= 'Z':
		return "Q'"
	}
	return "q'"
}

// P13.2: edges lead to what declares, of that name and that space; links to two such.
func TestEdges(t *testing.T) {
	for seed := uint64(0); seed < 3000; seed += 3 {
		u := load(t, lay(makeProject(seed, 0), blank)...)
		g, fault := resolve.Resolve(u)
		occs, names := u.Occs(), u.Names()
		if fault != (api.Fault{}) || len(g.Edge) != len(occs) || len(g.Via) != len(occs) {
			t.Fatal(u.Files(), fault, g)
		}
		alike := func(a, b int) bool { return occs[a].Space == occs[b].Space && names[a] == names[b] }
		for i, edge := range g.Edge {
			if !occs[edge].Decl || !alike(i, edge) || occs[i].Decl && (edge != i || g.Via[i] != -1) || g.Via[i] < -1 || g.Via[i] >= len(u.Opens()) {
				t.Fatalf("%q: %d %d %d", u.Files(), i, edge, g.Via[i])
			}
		}
		for i, p := range g.Links {
			if p.A >= p.B || !occs[p.A].Decl || !occs[p.B].Decl || !alike(p.A, p.B) || i > 0 && !(g.Links[i-1].A < p.A || g.Links[i-1].A == p.A && g.Links[i-1].B < p.B) {
				t.Fatalf("%q: %v", u.Files(), g.Links)
			}
		}
	}
}

// P13.3: what files say is not changed by files behind them.
func TestFilesBehind(t *testing.T) {
	for seed := range uint64(1500) {
		files := lay(makeProject(seed, int(seed%4)), blank)
		whole, fault := resolve.Resolve(load(t, files...))
		for n := range files {
			u := load(t, files[:n]...)
			g, there := resolve.Resolve(u)
			switch {
			case fault.Err != api.OK && fault.File < n:
				if there != fault {
					t.Fatalf("%q: %v, not %v", u.Files(), there, fault)
				}
			case there != (api.Fault{}):
				t.Fatalf("%q: %v", u.Files(), there)
			case fault.Err == api.OK:
				k := len(u.Occs())
				if !slices.Equal(g.Edge, whole.Edge[:k]) || !slices.Equal(g.Via, whole.Via[:k]) {
					t.Fatalf("%q: %v, not %v", u.Files(), g, whole)
				}
				for _, p := range g.Links {
					if !slices.Contains(whole.Links, p) {
						t.Fatalf("%q: %v, not %v", u.Files(), g, whole)
					}
				}
			}
		}
	}
}

// P13.4: blanks and notes change nothing of a graph, nor does where a project is cut into files; faults stay at their tokens.
func TestBlanks(t *testing.T) {
	gaps := []string{" ", "\n", "\t \r\n", " (* val x = open M *) ", "(* (* *) \" *)\n", "  "}
	rng := rand.New(rand.NewPCG(2, 13))
	for seed := range uint64(1500) {
		files := makeProject(seed, int(seed%4))
		u := load(t, lay(files, blank)...)
		g, fault := resolve.Resolve(u)
		v := load(t, lay(files, func() string { return gaps[rng.IntN(len(gaps))] })...)
		h, there := resolve.Resolve(v)
		if !same(g, h) || fault.Err != there.Err || fault.File != there.File || ahead(u, fault) != ahead(v, there) {
			t.Fatalf("%q: %v %v, not %v %v", v.Files(), h, there, g, fault)
		}
		one := load(t, lay([][]string{slices.Concat(files...)}, blank)...)
		if h, there := resolve.Resolve(one); !same(g, h) || fault.Err != there.Err {
			t.Fatalf("%q: %v %v, not %v %v", one.Files(), h, there, g, fault)
		}
	}
}

// ahead is how many names stand ahead of a fault in its file, and with which byte it begins.
func ahead(u *unit.Unit, fault api.Fault) [2]int {
	if fault.Err == api.OK {
		return [2]int{}
	}
	n := 0
	for _, o := range u.Occs() {
		if o.File == fault.File && o.At < fault.At {
			n++
		}
	}
	s, _ := u.Text(fault.File)
	return [2]int{n, int(s[fault.At])}
}

// P1, rules 3 and 6: a unit says the same however often it is asked, is not changed, and what is handed out is the caller's own.
func TestAgain(t *testing.T) {
	for seed := range uint64(300) {
		files := lay(makeProject(seed, int(seed%4)), blank)
		u := load(t, files...)
		occs, names := u.Occs(), u.Names()
		g, fault := resolve.Resolve(u)
		kept := api.Graph{Edge: slices.Clone(g.Edge), Links: slices.Clone(g.Links), Via: slices.Clone(g.Via)}
		clear(g.Edge)
		if !slices.Equal(g.Via, kept.Via) || !slices.Equal(g.Links, kept.Links) {
			t.Fatal("lists share memory")
		}
		clear(g.Via)
		clear(g.Links)
		h, again := resolve.Resolve(u)
		if !same(h, kept) || fault != again {
			t.Fatalf("%q: %v %v, not %v %v", files, h, again, kept, fault)
		}
		if !slices.Equal(u.Files(), files) || !slices.Equal(u.Occs(), occs) || !slices.Equal(u.Names(), names) {
			t.Fatalf("%q: changed", files)
		}
	}
}

// P1: any names anywhere, in texts that are files: each call ends, and tells what is found by looking backward.
func TestAnyNames(t *testing.T) {
	rng := rand.New(rand.NewPCG(3, 13))
	for seed := range uint64(2000) {
		files := makeProject(seed, 30)
		for i := range files {
			for range 3 {
				files[i] = changeName(rng, files[i])
			}
		}
		hold(t, load(t, lay(files, func() string { return strings.Repeat(" ", 1+rng.IntN(2)) })...))
	}
}
