package unit_test

import (
	"math"
	"reflect"
	"slices"
	"strings"
	"testing"

	"oriel/api"
	"oriel/ast"
	"oriel/unit"
)

// wrong is numbers of which there is no file, nor a byte of one.
var wrong = []int{-1, -2, math.MinInt, math.MaxInt, 1 << 32, -1 << 32, math.MaxInt - 1}

// sameNode says whether a and b are the same, places and all.
func sameNode(a, b api.Node) bool {
	return a.Kind == b.Kind && a.Mark == b.Mark && a.At == b.At && a.End == b.End &&
		slices.Equal(a.Occs, b.Occs) && slices.EqualFunc(a.Kids, b.Kids, sameNode)
}

func sameOpen(a, b unit.Open) bool { return a.File == b.File && sameNode(a.Node, b.Node) }

// look is all that a unit says.
type look struct {
	files []api.File
	nodes []api.Node
	occs  []api.Occ
	names []string
	opens []unit.Open
	texts []string
	at    []int
}

// looks is all that u says, with what stands at each place of each file, from one ahead of it to two behind it.
func looks(u *unit.Unit) look {
	l := look{files: u.Files(), nodes: u.Nodes(), occs: u.Occs(), names: u.Names(), opens: u.Opens()}
	for i := range l.files {
		s, _ := u.Text(i)
		l.texts = append(l.texts, s)
		for at := -1; at < len(s)+2; at++ {
			occ, ok := u.At(i, at)
			if !ok {
				occ = -1
			}
			l.at = append(l.at, occ)
		}
	}
	return l
}

// asLaid holds what u says against what was laid.
func (p *project) asLaid(t *testing.T, u *unit.Unit) {
	t.Helper()
	if got := u.Files(); !slices.Equal(got, p.files) {
		t.Fatalf("%q: Files %q", p.files, got)
	}
	if got := u.Occs(); !slices.Equal(got, p.occs) {
		t.Fatalf("%q:\n got %v\nwant %v", p.files, got, p.occs)
	}
	if got := u.Names(); !slices.Equal(got, p.names) {
		t.Fatalf("%q:\n got %q\nwant %q", p.files, got, p.names)
	}
	if got := u.Opens(); !slices.EqualFunc(got, p.opens, sameOpen) {
		t.Fatalf("%q:\n got %v\nwant %v", p.files, got, p.opens)
	}
	for i, f := range p.files {
		if s, ok := u.Text(i); s != f.Text || !ok {
			t.Fatalf("%q: Text %q %v", f, s, ok)
		}
	}
}

// P10.2: files of which each name, and each open, is known as it is laid.
func TestMade(t *testing.T) {
	for seed := range uint64(400) {
		p := newProject(seed, int(seed%6), 6)
		p.asLaid(t, load(t, p.files...))
	}
}

// P10.2: of each file its node, with the occurrences numbered as they are in all files.
func TestNodes(t *testing.T) {
	for seed := range uint64(300) {
		p := newProject(seed, 4, 5)
		nodes := load(t, p.files...).Nodes()
		if len(nodes) != len(p.files) {
			t.Fatal(len(nodes))
		}
		first := 0
		for i, f := range p.files {
			want, occs, _, _ := ast.File(f.Text, i, first)
			if !sameNode(nodes[i], want) {
				t.Fatalf("%q: file %d:\n got %v\nwant %v", p.files, i, nodes[i], want)
			}
			first += len(occs)
		}
	}
}

// P10.2: At, byte by byte.
func TestAt(t *testing.T) {
	for seed := range uint64(200) {
		p := newProject(seed, 4, 4)
		u := load(t, p.files...)
		for file, f := range p.files {
			want := slices.Repeat([]int{-1}, len(f.Text))
			for i, o := range p.occs {
				for at := o.At; o.File == file && at < o.End; at++ {
					want[at] = i
				}
			}
			for at, occ := range want {
				got, ok := u.At(file, at)
				if occ < 0 && (got != 0 || ok) || occ >= 0 && (got != occ || !ok) {
					t.Fatalf("%q: At(%d, %d) = %d %v, not %d", p.files, file, at, got, ok, occ)
				}
			}
			for _, at := range append([]int{len(f.Text), len(f.Text) + 1}, wrong...) {
				if got, ok := u.At(file, at); got != 0 || ok {
					t.Fatalf("%q: At(%d, %d) = %d", p.files, file, at, got)
				}
			}
		}
	}
}

// P10.2: names that stand beside one another, at a file's beginning and at its end.
func TestAtEdges(t *testing.T) {
	u := load(t, texts("val f=g+h", "", "open M.N", "(* x *)")...)
	for _, c := range []struct {
		file, at, occ int
	}{
		{0, 0, -1}, {0, 3, -1}, {0, 4, 0}, {0, 5, -1}, {0, 6, 1}, {0, 7, 2}, {0, 8, 3}, {0, 9, -1}, {0, 10, -1}, {0, -1, -1},
		{1, 0, -1}, {1, -1, -1}, {1, 1, -1},
		{2, 4, -1}, {2, 5, 4}, {2, 6, -1}, {2, 7, 5}, {2, 8, -1},
		{3, 0, -1}, {3, 3, -1}, {3, 7, -1},
		{4, 0, -1}, {4, 5, -1}, {-1, 4, -1},
	} {
		occ, ok := u.At(c.file, c.at)
		if c.occ < 0 && (occ != 0 || ok) || c.occ >= 0 && (occ != c.occ || !ok) {
			t.Errorf("At(%d, %d) = %d %v, not %d", c.file, c.at, occ, ok, c.occ)
		}
	}
	if occ, ok := load(t, texts("val x = 1", "val y = x")...).At(1, 8); occ != 2 || !ok {
		t.Error("the chapter's example:", occ, ok)
	}
	if occ, ok := load(t, texts("val long_name' = 1")...).At(0, 13); occ != 0 || !ok {
		t.Error("a name's last byte:", occ, ok)
	}
}

// P10.2: files that are not there.
func TestNoSuchFile(t *testing.T) {
	for _, files := range [][]api.File{nil, texts("val x = 1"), texts("val x = 1", "val y = x")} {
		u := load(t, files...)
		for _, file := range append([]int{len(files), len(files) + 1}, wrong...) {
			if s, ok := u.Text(file); s != "" || ok {
				t.Errorf("%q: Text(%d) = %q", files, file, s)
			}
			for _, at := range append([]int{0, 4, 8}, wrong...) {
				if occ, ok := u.At(file, at); occ != 0 || ok {
					t.Errorf("%q: At(%d, %d) = %d", files, file, at, occ)
				}
			}
		}
	}
	u := load(t, texts("val x = 1", "")...)
	if s, ok := u.Text(1); s != "" || !ok {
		t.Error("an empty text is one:", s, ok)
	}
}

// P10.2: opens, wherever they stand, in the order of the text, file by file.
func TestOpens(t *testing.T) {
	u := load(t, texts(
		"open A structure M = struct open B local open C in open D end val x = let open E in fn y => let open F.G in y end end end open H",
		"val x = \"open X\" (* open Y *)",
		"local local open I in end in open J end functor F (X : S) = struct open X end",
	)...)
	names := u.Names()
	var got []string
	for _, o := range u.Opens() {
		s, _ := u.Text(o.File)
		var path []string
		for _, occ := range o.Node.Occs {
			path = append(path, names[occ])
		}
		got = append(got, strings.Join(path, "."))
		if o.Node.Kind != api.NdOpen || s[o.Node.At:o.Node.End] != "open "+strings.Join(path, ".") || len(o.Node.Kids) != 0 {
			t.Errorf("%v", o)
		}
	}
	if want := "A B C D E F.G H I J X"; strings.Join(got, " ") != want {
		t.Errorf("%s, not %s", got, want)
	}
	if l := load(t, texts("", "val x = 1")...).Opens(); len(l) != 0 {
		t.Error(l)
	}
}

// P10.3: occurrences rise by files, and in a file by places.
func TestRising(t *testing.T) {
	for seed := range uint64(100) {
		l := load(t, newProject(seed, 5, 6).files...).Occs()
		for i := 1; i < len(l); i++ {
			if a, b := l[i-1], l[i]; a.File > b.File || a.File == b.File && a.End > b.At {
				t.Fatal(a, b)
			}
		}
	}
}

// P10.4: a unit's files, loaded again, make the same unit; and it says the same whenever it is asked.
func TestAgain(t *testing.T) {
	for seed := range uint64(100) {
		u := load(t, newProject(seed, 4, 5).files...)
		want := looks(u)
		if got := looks(load(t, u.Files()...)); !reflect.DeepEqual(got, want) {
			t.Fatalf("%q: another unit", want.files)
		}
		if got := looks(u); !reflect.DeepEqual(got, want) {
			t.Fatalf("%q: other answers", want.files)
		}
	}
}

// spoil turns all of n.
func spoil(n *api.Node) {
	for i := range n.Occs {
		n.Occs[i] = -77
	}
	for i := range n.Kids {
		spoil(&n.Kids[i])
	}
	*n = api.Node{Kind: -1, At: -2, Occs: append(n.Occs, -78), Kids: append(n.Kids, api.Node{Kind: -5})}
}

// P10.4, P2, and rule 3: what is handed in stays, what is handed out may be turned, and nothing of either is kept.
func TestOwn(t *testing.T) {
	for seed := range uint64(50) {
		p := newProject(seed, 4, 6)
		files := slices.Clone(p.files)
		u := load(t, files...)
		want := looks(u)
		if !slices.Equal(files, p.files) {
			t.Fatal("turned what was handed in")
		}
		clear(files)
		for range 2 {
			l := looks(u)
			if !reflect.DeepEqual(l, want) {
				t.Fatalf("%q: kept", p.files)
			}
			clear(l.files)
			clear(l.occs)
			clear(l.names)
			for i := range l.nodes {
				spoil(&l.nodes[i])
			}
			for i := range l.opens {
				spoil(&l.opens[i].Node)
				l.opens[i].File = -1
			}
		}
		unit.Load(append(u.Files(), api.File{Name: "more", Text: "val"})...)
		p.asLaid(t, u)
	}
}

// every is pointers to n and all below it.
func every(n *api.Node) []*api.Node {
	all := []*api.Node{n}
	for i := range n.Kids {
		all = append(all, every(&n.Kids[i])...)
	}
	return all
}

// P10.4: no two lists of one answer share anything.
func TestApart(t *testing.T) {
	for seed := range uint64(30) {
		u := load(t, newProject(seed, 3, 6).files...)
		nodes, opens := u.Nodes(), u.Opens()
		var all []*api.Node
		for i := range nodes {
			all = append(all, every(&nodes[i])...)
		}
		for i := range opens {
			all = append(all, &opens[i].Node)
		}
		for i, n := range all {
			size := len(n.Occs)
			n.Occs = append(n.Occs, -i, -i)
			for k := range size {
				n.Occs[k] = -i
			}
		}
		for i, n := range all {
			if slices.ContainsFunc(n.Occs, func(occ int) bool { return occ != -i }) {
				t.Fatal(i, n.Occs)
			}
		}
	}
}

// P10.2, P1: of no unit nothing, 0, false; the unit that is zero is one without files.
func TestNil(t *testing.T) {
	var none *unit.Unit
	for _, u := range []*unit.Unit{none, {}, load(t)} {
		if l := looks(u); len(l.files)+len(l.nodes)+len(l.occs)+len(l.names)+len(l.opens) != 0 {
			t.Error(l)
		}
		for _, file := range append([]int{0, 1}, wrong...) {
			if s, ok := u.Text(file); s != "" || ok {
				t.Error(file, s, ok)
			}
			for _, at := range append([]int{0, 1}, wrong...) {
				if occ, ok := u.At(file, at); occ != 0 || ok {
					t.Error(file, at, occ, ok)
				}
			}
		}
	}
}

// P1: parts that lie deep in one another, and very many beside one another.
func TestDeepAndWide(t *testing.T) {
	const many = 1 << 16
	u := load(t, texts("type t = u"+strings.Repeat(" v", many), strings.Repeat("open M val x = x ", many))...)
	nodes, opens, occs := u.Nodes(), u.Opens(), u.Occs()
	if len(nodes) != 2 || ast.Size(nodes[0]) != many+3 || ast.Size(nodes[1]) != 1+4*many {
		t.Fatal(len(nodes))
	}
	if len(opens) != many || opens[many-1].Node.Occs[0] != len(occs)-3 || len(occs) != many+2+3*many || len(u.Names()) != len(occs) {
		t.Fatal(len(opens), len(occs))
	}
	for i, o := range occs {
		if occ, ok := u.At(o.File, o.At); occ != i || !ok {
			t.Fatal(i, o, occ, ok)
		}
	}
	below := &nodes[0]
	for len(below.Kids) > 0 {
		below = &below.Kids[0]
	}
	below.Occs[0] = -1
	if again := u.Nodes(); ast.Alike(again[0], nodes[0]) {
		t.Fatal("kept what was handed out")
	}
}
