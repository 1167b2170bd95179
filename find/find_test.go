package find_test

import (
	"cmp"
	"math"
	"slices"
	"strconv"
	"testing"

	"oriel/api"
	"oriel/env"
	"oriel/find"
	"oriel/resolve"
	"oriel/unit"
)

// wrong is numbers of which there is no occurrence.
var wrong = []int{-1, -2, math.MinInt, math.MaxInt, 1 << 32, -1 << 32, math.MaxInt - 1}

// load is the unit of files that have one.
func load(t *testing.T, files ...api.File) *unit.Unit {
	t.Helper()
	u, fault := unit.Load(files...)
	if u == nil || fault != (api.Fault{}) {
		t.Fatalf("%.1000q: %v", files, fault)
	}
	return u
}

// texts is files of these texts, with names of their own.
func texts(l ...string) []api.File {
	var files []api.File
	for i, s := range l {
		files = append(files, api.File{Name: "f" + strconv.Itoa(i), Text: s})
	}
	return files
}

// keysOf is each name of u, of each space, and some that nothing can have.
func keysOf(u *unit.Unit) []env.Key {
	met := map[string]int{"": 0, "q'": 0, "Q'": 0, "<<": 0, "x.y": 0}
	for _, s := range u.Names() {
		met[s]++
	}
	var l []env.Key
	for s := range met {
		for space := -1; space <= api.SpFun+1; space++ {
			l = append(l, env.Key{Space: space, Name: s})
		}
	}
	return append(l, env.Key{Space: math.MaxInt, Name: "x"}, env.Key{Space: math.MinInt, Name: "A"})
}

// nothing holds that f says nothing of this number.
func nothing(t *testing.T, f *find.Finder, occ int) {
	t.Helper()
	if decl, ok := f.Binds(occ); decl != 0 || ok {
		t.Errorf("Binds(%d) = %d %v", occ, decl, ok)
	}
	if l := f.Around(occ); len(l) != 0 {
		t.Errorf("Around(%d) = %d", occ, l)
	}
	for _, k := range []env.Key{{}, {Space: api.SpValue, Name: "x"}, {Space: api.SpStr, Name: "M"}} {
		if decl, ok := f.Look(occ, k); decl != 0 || ok {
			t.Errorf("Look(%d, %v) = %d %v", occ, k, decl, ok)
		}
	}
}

// P14.1, P14.2, P1: a finder of no unit, and one that no call made.
func TestNil(t *testing.T) {
	if f := find.New(nil); f != nil {
		t.Error("New of no unit:", f)
	}
	var none *find.Finder
	for _, occ := range append([]int{0, 1}, wrong...) {
		nothing(t, none, occ)
		nothing(t, &find.Finder{}, occ)
	}
	if l, ok := none.Links(); len(l) != 0 || ok {
		t.Error(l, ok)
	}
	if l := none.Edges(); len(l) != 0 {
		t.Error(l)
	}
	if l := (&find.Finder{}).Edges(); len(l) != 0 {
		t.Error(l)
	}
	(&find.Finder{}).Links()
}

// Units without names have nothing, and it is all right.
func TestEmpty(t *testing.T) {
	for _, u := range []*unit.Unit{{}, load(t), load(t, texts("")...), load(t, texts("", " ; (* val x = y *)", "local in end val 1 = 2")...)} {
		f := find.New(u)
		if f == nil {
			t.Fatal("no finder of", u.Files())
		}
		if l := f.Edges(); len(l) != 0 {
			t.Error(l)
		}
		if l, ok := f.Links(); len(l) != 0 || !ok {
			t.Error(l, ok)
		}
		for _, occ := range append([]int{0, 1}, wrong...) {
			nothing(t, f, occ)
		}
	}
}

// P14.1, P14.3, P14.5: numbers of which there is no occurrence.
func TestNoSuchOccurrence(t *testing.T) {
	u := load(t, texts("structure M = struct val x = 1 end open M", "val y = x")...)
	f := find.New(u)
	for _, occ := range append([]int{5, 6}, wrong...) {
		nothing(t, f, occ)
	}
	for occ := range 5 {
		if _, ok := f.Binds(occ); !ok {
			t.Error(occ)
		}
	}
}

// The examples of the document of which a finder can tell.
func TestExamples(t *testing.T) {
	means(t, "", "val x#1 = 1 structure M#2 = struct val x#3 = x@1 end")
	means(t, "", "structure M#1 = struct val x#2 = 1 end open M@1 val y#3 = x@2")
	means(t, "2-4", "signature S#1 = sig val x#2 : 'a end structure M#3 : S@1 = struct val x#4 = 1 end val y#5 = M@3 . x@2")
	means(t, "", "structure M#1 = struct val x#2 = 1 end open M@1 val y#3 = 2 val z#4 = x@2")
	means(t, "", "val x#1 = 1 fun f#2 y#3 = x@1")
}

// snapshot is all that f says of u's names.
func snapshot(u *unit.Unit, f *find.Finder) [][]int {
	links, ok := f.Links()
	all := [][]int{f.Edges(), {len(links)}}
	for _, p := range links {
		all = append(all, []int{p.A, p.B})
	}
	if ok {
		all = append(all, []int{1})
	}
	keys := keysOf(u)
	slices.SortFunc(keys, func(a, b env.Key) int { return cmp.Or(cmp.Compare(a.Name, b.Name), cmp.Compare(a.Space, b.Space)) })
	for occ := range u.Occs() {
		decl, _ := f.Binds(occ)
		l := append([]int{decl}, f.Around(occ)...)
		for _, k := range keys {
			decl, _ := f.Look(occ, k)
			l = append(l, decl)
		}
		all = append(all, l)
	}
	return all
}

// Rules 3 and 6: a finder says the same however often, and in whatever order, it is asked; what is handed out is the caller's own, and the unit stays.
func TestAgain(t *testing.T) {
	for seed := range uint64(60) {
		files := sow(seed, 8, 2)
		u := load(t, files...)
		occs, names := u.Occs(), u.Names()
		f := find.New(u)
		want := snapshot(u, f)
		for range 2 {
			clear(f.Edges())
			links, _ := f.Links()
			clear(links)
			for occ := range occs {
				clear(f.Around(occ))
			}
			if !slices.EqualFunc(snapshot(u, f), want, slices.Equal) {
				t.Fatalf("%q: other answers", files)
			}
		}
		g := find.New(u)
		for _, k := range keysOf(u) {
			for occ := range slices.Backward(occs) {
				g.Look(occ, k)
			}
		}
		if !slices.EqualFunc(snapshot(u, g), want, slices.Equal) {
			t.Fatalf("%q: another finder", files)
		}
		if !slices.Equal(u.Files(), files) || !slices.Equal(u.Occs(), occs) || !slices.Equal(u.Names(), names) {
			t.Fatalf("%q: changed", files)
		}
	}
}

// hold holds what a finder of u says against what Resolve says.
func hold(t *testing.T, u *unit.Unit) (api.Graph, api.Fault) {
	t.Helper()
	g, fault := resolve.Resolve(u)
	f := find.New(u)
	edges := f.Edges()
	links, ok := f.Links()
	switch fault.Err {
	case api.OK:
		if !slices.Equal(edges, g.Edge) || !slices.Equal(links, g.Links) || !ok {
			t.Fatalf("%q: %d %v %v, not %d %v", u.Files(), edges, links, ok, g.Edge, g.Links)
		}
	case api.ErrUnbound:
		occ, _ := u.At(fault.File, fault.At)
		if decl, ok := f.Binds(occ); decl != 0 || ok || edges[occ] != -1 {
			t.Fatalf("%q: Binds(%d) = %d %v", u.Files(), occ, decl, ok)
		}
	case api.ErrMatch:
		if len(links) != 0 || ok {
			t.Fatalf("%q: %v %v", u.Files(), links, ok)
		}
	}
	if len(edges) != len(u.Occs()) {
		t.Fatalf("%q: %d edges", u.Files(), len(edges))
	}
	for occ, edge := range edges {
		decl, ok := f.Binds(occ)
		if ok && (decl != edge || edge < 0) || !ok && (decl != 0 || edge != -1) {
			t.Fatalf("%q: Binds(%d) = %d %v, not %d", u.Files(), occ, decl, ok, edge)
		}
	}
	return g, fault
}
