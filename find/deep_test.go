package find_test

import (
	"strconv"
	"strings"
	"testing"

	"oriel/api"
	"oriel/env"
	"oriel/find"
	"oriel/unit"
)

// most is how many parts lie in one another, or stand beside one another.
const most = 1 << 16

// holds is the finder of texts that have a graph, which it finds.
func holds(t *testing.T, l ...string) (*unit.Unit, *find.Finder) {
	t.Helper()
	u := load(t, texts(l...)...)
	if _, fault := hold(t, u); fault != (api.Fault{}) {
		t.Fatalf("%.300q: %v", l, fault)
	}
	return u, find.New(u)
}

// last holds what the last name means, and what is found where it stands.
func last(t *testing.T, want int, l ...string) {
	t.Helper()
	u, f := holds(t, l...)
	occ := len(u.Occs()) - 1
	if decl, ok := f.Binds(occ); decl != want || !ok {
		t.Errorf("%.300q: %d %v, not %d", l, decl, ok, want)
	}
	if decl, ok := f.Look(occ, env.Key{Space: api.SpValue, Name: "nowhere"}); decl != 0 || ok {
		t.Errorf("%.300q: %d %v", l, decl, ok)
	}
}

// P1, P14.1 to P14.3: signatures behind structures, types behind signatures and paths behind types lie in one another as deep as they like.
func TestDeepForms(t *testing.T) {
	u, f := holds(t, "signature S = sig type t end structure M = struct type t = 'a end"+strings.Repeat(" : S", most))
	if l := f.Around(3); len(l) != most+4 || l[2] != api.NdSeal || l[most+1] != api.NdSeal || l[most+2] != api.NdStr {
		t.Error(len(l))
	}
	if l, ok := f.Links(); !ok || len(l) != 1 || l[0] != (api.Pair{A: 1, B: 3}) {
		t.Error(l, ok)
	}
	if decl, ok := f.Look(len(u.Occs())-1, env.Key{Space: api.SpSig, Name: "S"}); decl != 0 || !ok {
		t.Error(decl, ok)
	}
	_, f = holds(t, "signature S = sig type t end signature T = S"+strings.Repeat(" where type t = 'a", most)+" structure M = struct type t = 'a end : T")
	if decl, ok := f.Look(most+3, env.Key{Space: api.SpType, Name: "t"}); decl != 1 || !ok {
		t.Error(decl, ok)
	}
	last(t, 0, "type t = 'a type u = 'a"+strings.Repeat(" t", most))
	last(t, 1, "structure M = struct val x = 1 end val x = 2 val y = "+strings.Repeat("( fn z => M . x ) ", 1000)+"M . x")
	last(t, 100, strings.Repeat("structure M = struct ", 100)+"val x = 1"+strings.Repeat(" end", 100)+" val y = "+strings.Repeat("M . ", 100)+"x")
}

// P1: names of what was named, opened, included ahead, again and again: ways to what they have are long.
func TestLongWays(t *testing.T) {
	t.Parallel()
	const m, s = "structure M = struct val x = 1 val y = x end ", "signature S = sig val x : 'a end "
	last(t, 1, m+strings.Repeat("structure M = M ", most)+"val z = M . x")
	last(t, 1, m+strings.Repeat("structure M = struct open M end ", most)+"val z = M . x")
	last(t, 1, m+strings.Repeat("structure M = struct local in open M end end ", most)+"open M val z = x")
	last(t, 1, s+strings.Repeat("signature S = S ", most)+"structure M : S = struct val x = 1 end val z = M . x")
	last(t, 1, s+strings.Repeat("signature S = sig include S end ", most)+"structure M : S = struct val x = 1 end open M val z = x")
	last(t, 1, s+"functor F ( X : S ) = X "+strings.Repeat("functor F ( X : S ) = F ( X ) ", 1<<12)+"structure M = F ( struct val x = 1 end ) val z = M . x")
}

// P1: what is opened, included, held twice in each level is looked through once.
func TestSharedParts(t *testing.T) {
	const levels = 1 << 10
	last(t, 1, "structure M = struct end val x = 1 "+strings.Repeat("structure M = struct open M open M end ", levels)+"open M val z = x")
	last(t, 1, "structure M = struct val x = 1 end "+strings.Repeat("structure M = struct open M open M end ", levels)+"val z = M . x")
	last(t, 2, "signature S = sig end structure M = struct val x = 1 end "+strings.Repeat("signature S = sig include S include S end ", levels)+"structure N : S = M val z = M . x")
	s := "signature S = sig val x : 'a end structure M = struct val x = 1 end " +
		strings.Repeat("signature S = sig structure A : S structure B : S end structure M = struct structure A = M structure B = M end ", levels)
	_, f := holds(t, s+"structure N : S = M structure O = M : S functor F ( X : S ) : S = X structure P = F ( M ) structure Q = F ( N )")
	if l, ok := f.Links(); !ok || len(l) != 2*levels+1 {
		t.Error(len(l), ok)
	}
	missed := find.New(load(t, texts(strings.Replace(s, "val x = 1", "val y = 1", 1)+"structure N : S = M")...))
	if l, ok := missed.Links(); ok || len(l) != 0 {
		t.Error(len(l), ok)
	}
}

// P1: very many declarations, opens and files beside one another.
func TestWide(t *testing.T) {
	t.Parallel()
	const m = "structure M = struct val y = 1 end "
	last(t, 2*most-1, "val x = 1 "+strings.Repeat("val x = x ", most)+"val z = x")
	last(t, 2, m+"val x = 1 "+strings.Repeat("open M val z = x ", most)+"val z = x")
	last(t, 1, m+"val x = 1 "+strings.Repeat("open M val z = x val w = y ", most)+"val z = y")
	last(t, 2, m+"val x = 1 "+strings.Repeat("local open M in val z = x end ", most/4)+"val z = x")
	last(t, 0, "val x = 1 fun f "+manyNames(most)+"= x")
	var opened, used strings.Builder
	for i := range most / 4 {
		n := strconv.Itoa(i)
		opened.WriteString("structure M" + n + " = struct val x" + n + " = 1 end open M" + n + " ")
		used.WriteString("val z = x" + n + " ")
	}
	last(t, 1, opened.String()+used.String()+"val z = x0")
	files := []string{"val x = 1 structure M = struct val y = x end"}
	for i := range api.MaxFiles - 1 {
		files = append(files, "open M val z"+strconv.Itoa(i)+" = ( x , y )")
	}
	_, f := holds(t, files...)
	if decl, ok := f.Look(len(f.Edges())-1, env.Key{Space: api.SpValue, Name: "z7"}); !ok || f.Edges()[decl] != decl {
		t.Error(decl, ok)
	}
}

// manyNames is n names, parted by blanks.
func manyNames(n int) string {
	var s strings.Builder
	for i := range n {
		s.WriteString("w" + strconv.Itoa(i) + " ")
	}
	return s.String()
}
