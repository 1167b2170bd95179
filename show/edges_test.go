package show_test

import (
	"math"
	"reflect"
	"slices"
	"strings"
	"testing"
	"unsafe"

	"oriel/api"
	"oriel/show"
)

func x(occs ...int) api.Node { return api.Node{Kind: api.NdVar, Occs: occs} }

func of(kind int, kids ...api.Node) api.Node { return api.Node{Kind: kind, Kids: kids} }

func named(kind int, occs ...int) api.Node { return api.Node{Kind: kind, Occs: occs} }

// P9.1: nodes as no file has them, drawn by hand: kids that are not there, other kinds, names that are not there, signs where they are none.
var odd = []struct {
	node api.Node
	want string
}{
	{api.Node{}, ""},
	{api.Node{Kind: -1, Occs: []int{0}, Kids: []api.Node{x(0)}}, ""},
	{api.Node{Kind: 45, Occs: []int{0}, Kids: []api.Node{x(0)}}, ""},
	{api.Node{Kind: math.MaxInt}, ""},
	{api.Node{Kind: math.MinInt}, ""},

	// What is no root is told by itself, too.
	{of(api.NdDecs, of(api.NdInt), of(api.NdText)), `0 ""`},
	{of(api.NdArm, x(0), of(api.NdCase, x(0))), "x => case x of"},
	{api.Node{Kind: api.NdFbind, Occs: []int{1}, Kids: []api.Node{x(0), x(2)}}, "op + x = M"},
	{api.Node{Kind: api.NdDbind, Occs: []int{0}, Kids: []api.Node{named(api.NdCon, 2), named(api.NdCon, 2)}}, "x = M | M"},

	// Kids that are not there.
	{of(api.NdVal), "val ="},
	{of(api.NdVal, x(0)), "val x ="},
	{of(api.NdFun), "fun"},
	{of(api.NdFbind), "_ ="},
	{of(api.NdFbind, x(0)), "_ = x"},
	{of(api.NdCase), "case of"},
	{of(api.NdCase, x(0)), "case x of"},
	{of(api.NdIf, x(0)), "if x then else"},
	{of(api.NdFn), "fn =>"},
	{of(api.NdLet), "let in end"},
	{of(api.NdLocal), "local in end"},
	{of(api.NdCall), ""},
	{of(api.NdTuple), "( )"},
	{of(api.NdTuple, x(0)), "( x )"},
	{of(api.NdTuple, api.Node{}, api.Node{}), "( , )"},
	{of(api.NdArrow), "->"},
	{of(api.NdProd), ""},
	{of(api.NdWhere), "where type ="},
	{api.Node{Kind: api.NdStr, Mark: 1, Occs: []int{2}, Kids: []api.Node{named(api.NdSigUse, 2)}}, "structure M : M ="},
	{api.Node{Kind: api.NdFunctor, Mark: 2, Occs: []int{2}}, "functor M ( _ : ) :> ="},
	{of(api.NdSeal, x(0)), "x"},
	{of(api.NdInclude), "include"},
	{named(api.NdApply, 2), "M ( )"},

	// Names that are not there, and names that are signs.
	{x(12), "_"},
	{x(-1), "_"},
	{x(2, math.MaxInt, math.MinInt, 0), "M . _ . _ . x"},
	{x(1), "op +"},
	{x(2, 1), "M . op +"},
	{x(1, 0), "op + . x"},
	{x(4), "="},
	{named(api.NdOpen, 1), "open op +"},
	{named(api.NdConUse, 1), "op +"},
	{named(api.NdTyUse, 1), "op +"},
	{named(api.NdPath, 1), "op +"},
	{named(api.NdWhere, 1), "where type op + ="},
	{named(api.NdBind, 1), "op +"},
	{named(api.NdFbind, 1), "op + ="},
	{named(api.NdValSpec, 1), "val op + :"},
	{named(api.NdAs, 1), "+ as"},
	{named(api.NdType, 1), "type + ="},
	{named(api.NdTySpec, 1), "type +"},
	{named(api.NdCon, 1), "+"},
	{named(api.NdStr, 1), "structure + ="},
	{named(api.NdSig, 1), "signature + ="},
	{named(api.NdSigUse, 1), "+"},
	{named(api.NdApply, 1), "+ ( )"},
	{named(api.NdFunctor, 1, 1), "functor + ( + : ) ="},
	{api.Node{Kind: api.NdInfix, Occs: []int{0, 1, 99}, Kids: []api.Node{x(0), x(0), x(1), x(0)}}, "x x x + op + _ x"},
	{api.Node{Kind: api.NdInfix, Kids: []api.Node{x(0), x(0)}}, "x _ x"},

	// Kinds where they do not belong.
	{of(api.NdInfix, of(api.NdAs), of(api.NdArrow), of(api.NdFn)), "_ as _ -> _ ( fn => )"},
	{of(api.NdConUse, of(api.NdIf)), "if then else"},
	{of(api.NdConUse, of(api.NdConUse, x(0))), "( x )"},
	{of(api.NdCase, x(0), of(api.NdCase), of(api.NdArm)), "case x of case of | =>"},
	{of(api.NdCase, x(0), of(api.NdIf, x(0), x(0), of(api.NdCase)), of(api.NdArm)), "case x of if x then x else case of | =>"},
	{of(api.NdCase, x(0), of(api.NdArm, x(0), of(api.NdArm, x(0), of(api.NdCase))), of(api.NdArm)), "case x of x => x => case of | =>"},
	{of(api.NdTyUse, of(api.NdCase)), "case of"},
}

func TestOdd(t *testing.T) {
	for _, o := range odd {
		if got := show.Show(o.node, strange); got != o.want {
			t.Errorf("%+v:\n got %s\nwant %s", o.node, got, o.want)
		}
	}
}

// P9.1: without names each occurrence is told as one that has none.
func TestNoNames(t *testing.T) {
	n := of(api.NdFile, of(api.NdVal, named(api.NdBind, 0), x(1, 2)))
	for _, names := range [][]string{nil, {}} {
		if got := show.Show(n, names); got != "val _ = _ . _" {
			t.Fatal(got)
		}
	}
}

// P9.1, P1: nodes that lie as deep in one another as anything is promised of.
func TestDeepNodes(t *testing.T) {
	const deep = 1 << 16
	for _, d := range []struct {
		top          func(below api.Node) api.Node
		ahead, after string
	}{
		{func(n api.Node) api.Node { return of(api.NdFn, n) }, "fn ", " =>"},
		{func(n api.Node) api.Node { return of(api.NdFn, x(0), n) }, "fn x => ", ""},
		{func(n api.Node) api.Node { return of(api.NdIf, x(0), x(0), n) }, "if x then x else ", ""},
		{func(n api.Node) api.Node { return of(api.NdCase, x(0), of(api.NdArm, x(0), n)) }, "case x of x => ", ""},
		{func(n api.Node) api.Node { return of(api.NdCall, x(0), of(api.NdTuple, n)) }, "x ( ", " )"},
		{func(n api.Node) api.Node { return of(api.NdLet, of(api.NdDecs, of(api.NdVal, x(0), n))) }, "let val x = ", " in end"},
		{func(n api.Node) api.Node { return of(api.NdTuple, n) }, "( ", " )"},
		{func(n api.Node) api.Node { return of(api.NdStr, of(api.NdStruct, n)) }, "structure _ = struct ", " end"},
		{func(n api.Node) api.Node { return of(api.NdArrow, x(0), n) }, "x -> ", ""},
		{func(n api.Node) api.Node { return api.Node{Kind: api.NdTyUse, Occs: []int{0}, Kids: []api.Node{n}} }, "", " x"},
		{func(n api.Node) api.Node {
			return api.Node{Kind: api.NdTyUse, Occs: []int{0}, Kids: []api.Node{of(api.NdProd, n)}}
		}, "( ", " ) x"},
	} {
		n := of(api.NdInt)
		for range deep {
			n = d.top(n)
		}
		if show.Show(n, strange) != strings.Repeat(d.ahead, deep)+"0"+strings.Repeat(d.after, deep) {
			t.Fatal(d.ahead, d.after)
		}
	}

	// The case that ends an arm, at the end of all others that an expression may end with.
	n := of(api.NdCase, x(0))
	for range deep {
		n = of(api.NdIf, x(0), x(0), of(api.NdFn, x(0), n))
	}
	n = of(api.NdCase, x(0), of(api.NdArm, x(0), n), of(api.NdArm))
	if want := "case x of x => " + strings.Repeat("if x then x else fn x => ", deep) + "( case x of ) | =>"; show.Show(n, strange) != want {
		t.Fatal("the case that ends an arm")
	}

	// An arm in each arm, with parentheses around each case but the first.
	n = of(api.NdCase, x(0))
	for range deep {
		n = of(api.NdCase, x(0), of(api.NdArm, x(0), n), of(api.NdArm, x(0), x(0)))
	}
	if want := strings.Repeat("case x of x => ( ", deep) + "case x of" + strings.Repeat(" ) | x => x", deep); show.Show(n, strange) != want {
		t.Fatal("cases in arms")
	}
}

// P9.1, P1: nodes with many kids and many names.
func TestWideNodes(t *testing.T) {
	const wide = 200000
	kids := slices.Repeat([]api.Node{x(0)}, wide)
	for kind, want := range map[int]string{
		api.NdFile:  strings.Repeat(" x", wide)[1:],
		api.NdData:  "datatype x" + strings.Repeat(" and x", wide-1),
		api.NdTuple: "( x" + strings.Repeat(" , x", wide-1) + " )",
		api.NdCase:  "case x of x" + strings.Repeat(" | x", wide-2),
		api.NdInfix: "x" + strings.Repeat(" _ x", wide-1),
		api.NdFbind: "_" + strings.Repeat(" x", wide-1) + " = x",
	} {
		if show.Show(of(kind, kids...), strange) != want {
			t.Fatal(kind)
		}
	}
	if show.Show(x(make([]int, wide)...), strange) != "x"+strings.Repeat(" . x", wide-1) {
		t.Fatal("path")
	}
}

// P9.2: of each occurrence its bytes, whatever else it says; of one whose bytes are not there none.
func TestNames(t *testing.T) {
	const s = "val x = M.y\x00\xff"
	for _, d := range []struct {
		at, end int
		want    string
	}{
		{0, 3, "val"}, {4, 5, "x"}, {8, 9, "M"}, {10, 11, "y"}, {3, 4, " "}, {11, 13, "\x00\xff"}, {0, 13, s},
		{0, 0, ""}, {5, 5, ""}, {13, 13, ""},
		{-1, 3, ""}, {-2, -1, ""}, {5, 4, ""}, {12, 14, ""}, {13, 14, ""}, {14, 14, ""}, {20, 30, ""},
		{math.MinInt, math.MaxInt, ""}, {0, math.MaxInt, ""}, {math.MaxInt, math.MinInt, ""}, {math.MinInt, 5, ""}, {math.MaxInt, math.MaxInt, ""},
	} {
		for _, o := range []api.Occ{{At: d.at, End: d.end}, {File: 7, At: d.at, End: d.end, Space: api.SpCon, Decl: true}, {File: -1, At: d.at, End: d.end, Space: -1}} {
			if got := show.Names(s, []api.Occ{o}); len(got) != 1 || got[0] != d.want {
				t.Errorf("%v: %q, not %q", o, got, d.want)
			}
		}
	}
	l := []api.Occ{{At: 10, End: 11}, {At: 4, End: 99}, {At: 8, End: 9}, {At: 10, End: 11}}
	if got := show.Names(s, l); !slices.Equal(got, []string{"y", "", "M", "y"}) {
		t.Fatalf("%q", got)
	}
	if got := show.Names("", l); !slices.Equal(got, []string{"", "", "", ""}) {
		t.Fatalf("%q", got)
	}
	if got := show.Names(s, nil); len(got) != 0 {
		t.Fatalf("%q", got)
	}
}

// P9.2: of what a file is made of, its names.
func TestNamesOfFile(t *testing.T) {
	_, names := read(t, "structure M' = struct fun op++ (x_1, _) = x_1 end val y = M'.z ++ A")
	if !slices.Equal(names, strings.Fields("M' ++ x_1 x_1 y M' z ++ A")) {
		t.Fatalf("%q", names)
	}
}

// Rule 3, P2: what is handed in stays, what is handed out is new, and a later call tells the same.
func TestOwn(t *testing.T) {
	n, names := read(t, "structure M = struct val x = a + (case b of c => d) end")
	m, others := read(t, "structure M = struct val x = a + (case b of c => d) end")
	text := show.Show(n, names)
	if !reflect.DeepEqual(n, m) || !slices.Equal(names, others) {
		t.Fatal("turned")
	}
	show.Show(of(api.NdFile, n, of(api.NdIf)), nil)
	show.Names(text, []api.Occ{{At: 3, End: 1}})
	if again := show.Show(n, names); again != text {
		t.Fatal(again)
	}

	one := strings.Clone("name")
	for _, n := range []api.Node{x(0), named(api.NdBind, 0), named(api.NdSigUse, 0)} {
		if got := show.Show(n, []string{one}); got != one || unsafe.StringData(got) == unsafe.StringData(one) {
			t.Fatal(got)
		}
	}
	l := []api.Occ{{At: 0, End: 4}}
	got := show.Names(one, l)
	if got[0] != one || unsafe.StringData(got[0]) == unsafe.StringData(one) {
		t.Fatal(got)
	}
	got[0] = "other"
	if again := show.Names(one, l); again[0] != "name" || l[0] != (api.Occ{At: 0, End: 4}) {
		t.Fatal(again)
	}
}
