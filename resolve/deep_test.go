package resolve_test

import (
	"strconv"
	"strings"
	"testing"

	"oriel/api"
	"oriel/resolve"
	"oriel/unit"
)

// most is how many parts lie in one another, or stand beside one another.
const most = 1 << 16

// graphOf is the graph of texts that have one.
func graphOf(t *testing.T, l ...string) (*unit.Unit, api.Graph) {
	t.Helper()
	u := load(t, texts(l...)...)
	g, fault := resolve.Resolve(u)
	if fault != (api.Fault{}) {
		t.Fatalf("%.300q: %v", l, fault)
	}
	return u, g
}

// failsAt holds the fault of a text.
func failsAt(t *testing.T, s string, err api.Errno, at int) {
	t.Helper()
	g, fault := resolve.Resolve(load(t, texts(s)...))
	if want := (api.Fault{Err: err, At: at}); fault != want || !same(g, api.Graph{}) {
		t.Errorf("%.300q: %v, not %v", s, fault, want)
	}
}

// P1, P13.1: signatures behind structures, types behind signatures and paths behind types lie in one another as deep as they like.
func TestDeepForms(t *testing.T) {
	s := "signature S = sig type t end structure M = struct type t = 'a end" + strings.Repeat(" : S", most)
	u, g := graphOf(t, s)
	if len(g.Edge) != most+4 || g.Edge[most+3] != 0 || len(g.Links) != 1 || g.Links[0] != (api.Pair{A: 1, B: 3}) {
		t.Error(len(u.Occs()), g.Links)
	}
	failsAt(t, s+" : T", api.ErrUnbound, len(s)+3)
	failsAt(t, s+" : sig val x : 'a end", api.ErrMatch, strings.Index(s, "struct type"))

	s = "signature S = sig type t end" + strings.Repeat(" where type t = 'a", most)
	if _, g = graphOf(t, s); len(g.Edge) != most+2 || g.Edge[most+1] != 1 || len(g.Links) != 0 {
		t.Error(len(g.Edge), g.Links)
	}
	failsAt(t, s+" where type u = 'a", api.ErrUnbound, len(s)+12)
	failsAt(t, s+" where type t = u", api.ErrUnbound, len(s)+16)

	s = "type t = 'a type u = 'a" + strings.Repeat(" t", most)
	if _, g = graphOf(t, s); len(g.Edge) != most+2 || g.Edge[2] != 0 || g.Edge[most+1] != 0 {
		t.Error(len(g.Edge))
	}
	failsAt(t, s+" u", api.ErrUnbound, len(s)+1)
	failsAt(t, "type t = ( 'a , v )"+strings.Repeat(" t", most), api.ErrUnbound, 16)
}

// P1, P13.1: parts as deep as a file may have them: each has its own scope.
func TestDeepScopes(t *testing.T) {
	const n = 80
	for _, c := range []struct{ begin, in, mid, out string }{
		{"val y = ", "let val x = 1 in ( x , ", "0", " , x ) end"},
		{"val y = ", "( fn x => ( x , ", "0", " , x ) )"},
		{"val y = ", "( case 1 of x => ( x , ", "0", " , x ) )"},
		{"", "local val x = 1 val y = x in ", "", " val z = x end"},
		{"", "structure M = struct val x = 1 val y = x ", "", " val z = x end"},
	} {
		s := c.begin + strings.Repeat(c.in, n) + c.mid + strings.Repeat(c.out, n)
		u, g := graphOf(t, s)
		names, uses := u.Names(), 0
		var open []int
		for i, o := range u.Occs() {
			if names[i] != "x" {
				continue
			}
			if o.Decl {
				open = append(open, i)
				continue
			}
			uses++
			last := len(open) - 1
			if g.Edge[i] != open[last] {
				t.Fatalf("%.100q: %d means %d, not %d", s, i, g.Edge[i], open[last])
			}
			if uses > n {
				open = open[:last]
			}
		}
		if uses != 2*n {
			t.Fatalf("%.100q: %d", s, uses)
		}
	}
	s := strings.Repeat("structure M = struct ", n) + "val x = 1" + strings.Repeat(" end", n) + " val y = " + strings.Repeat("M . ", n) + "x"
	u, g := graphOf(t, s)
	for i := range n {
		if g.Edge[n+2+i] != i {
			t.Fatal(i, g.Edge[n+2+i])
		}
	}
	if last := len(u.Occs()) - 1; g.Edge[last] != n {
		t.Fatal(g.Edge[last])
	}
	failsAt(t, s+" val z = "+strings.Repeat("M . ", n+1)+"x", api.ErrUnbound, len(s)+9+4*n)
}

// P1, P13.1: structures and signatures that hold one another twice, level by level: each pair is linked once.
func TestSharedParts(t *testing.T) {
	const levels = 1 << 12
	var s strings.Builder
	s.WriteString("signature S0 = sig val x : 'a end structure M0 = struct val x = 1 end ")
	for i := 1; i <= levels; i++ {
		n, ahead := strconv.Itoa(i), strconv.Itoa(i-1)
		s.WriteString("signature S" + n + " = sig structure A : S" + ahead + " structure B : S" + ahead + " end ")
		s.WriteString("structure M" + n + " = struct structure A = M" + ahead + " structure B = M" + ahead + " end ")
	}
	top := strconv.Itoa(levels)
	whole := s.String() + "structure N : S" + top + " = M" + top + " structure O = M" + top + " : S" + top +
		" functor F ( X : S" + top + " ) : S" + top + " = X structure P = F ( M" + top + " ) structure Q = F ( N )"
	if _, g := graphOf(t, whole); len(g.Links) != 2*levels+1 {
		t.Error(len(g.Links))
	}
	missed := strings.Replace(s.String(), "val x = 1", "val y = 1", 1)
	failsAt(t, missed+"structure N : S"+top+" = M"+top, api.ErrMatch, len(missed))
	failsAt(t, missed+"structure N = M"+top+" : S"+top, api.ErrMatch, len(missed)+14)
}

// P1, P13.1: parts of parts, and so on, as deep as a file can name them.
func TestDeepParts(t *testing.T) {
	var s strings.Builder
	s.WriteString("structure M = struct val x = 1 end signature S = sig val x : 'a end ")
	for range most {
		s.WriteString("structure M = struct structure M = M end signature S = sig structure M : S end ")
	}
	s.WriteString("structure N : S = M structure N = M : S functor F ( X : S ) = X structure O = F ( M )")
	if _, g := graphOf(t, s.String()); len(g.Links) != most+1 {
		t.Error(len(g.Links))
	}
}

// P1, P13.1: a project of many names.
func TestManyNames(t *testing.T) {
	var s, spec, have strings.Builder
	for i := range most {
		n := strconv.Itoa(i)
		s.WriteString("val x" + n + " = ( x" + strconv.Itoa(max(i-1, 0)/2) + " ) ")
		spec.WriteString("val x" + n + " : 'a ")
		have.WriteString("val x" + strconv.Itoa(most-1-i) + " = 1 ")
	}
	u, g := graphOf(t, "val x0 = 1 "+s.String())
	for i := range most {
		if want := 1 + 2*(max(i-1, 0)/2); i > 0 && g.Edge[2*i+2] != want {
			t.Fatal(i, g.Edge[2*i+2], want)
		}
	}
	if len(u.Occs()) != 2*most+1 {
		t.Error(len(u.Occs()))
	}
	_, g = graphOf(t, "signature S = sig "+spec.String()+"end", "structure M : S = struct "+have.String()+"end", "open M val y = ( x0 , x1 )", strings.Repeat("structure M = M : S ", 1000))
	if len(g.Links) != most || g.Edge[2*most+5] != 1 || g.Via[2*most+5] != 0 || g.Edge[2*most+6] != 2 || g.Via[2*most+6] != 0 {
		t.Error(len(g.Links), g.Edge[2*most:2*most+8])
	}
	var pat strings.Builder
	for i := range most {
		pat.WriteString("x" + strconv.Itoa(i) + " , ")
	}
	graphOf(t, "val ( "+pat.String()+"y ) = 1 fun f "+strings.ReplaceAll(pat.String(), ",", "")+" = ( "+pat.String()+"f )")
	failsAt(t, "val ( "+pat.String()+"x0 ) = 1", api.ErrTwice, 6+pat.Len())
}
