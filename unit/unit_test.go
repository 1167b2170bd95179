package unit_test

import (
	"slices"
	"strconv"
	"strings"
	"testing"

	"oriel/api"
	"oriel/ast"
	"oriel/unit"
)

// refuse holds what Load says of files that make no unit.
func refuse(t *testing.T, files []api.File, want api.Fault) {
	t.Helper()
	asTheyWere := slices.Clone(files)
	u, fault := unit.Load(files...)
	if u != nil || fault != want {
		t.Errorf("%.300q: %v, not %v", files, fault, want)
	}
	if !slices.Equal(files, asTheyWere) {
		t.Errorf("%.300q: changed", files)
	}
}

// P10.1: files that make a unit, and a fault that is zero.
func TestLoad(t *testing.T) {
	for _, files := range [][]api.File{
		nil,
		{},
		{{}},
		texts("val x = 1", "val y = x"),
		texts("", "(* *)", "open M", ""),
		{{Name: "a", Text: "val x = 1"}, {Name: "A", Text: "val x = 1"}, {Name: "", Text: "val x = 1"}, {Name: " a"}, {Name: "a\x00"}, {Name: "\xff"}},
	} {
		if u := load(t, files...); !slices.Equal(u.Files(), files) {
			t.Errorf("%q: %q", files, u.Files())
		}
	}
}

// P10.1: a name that is there twice, told at the first file that has that of one ahead.
func TestNamesTwice(t *testing.T) {
	for _, c := range []struct {
		names string
		at    int
	}{
		{"a a", 1}, {"a b a", 2}, {"a b b a", 2}, {"a b c a b c", 3}, {"a b c c c", 3}, {"a b a a", 2}, {"b a a b", 2},
	} {
		var files []api.File
		for _, name := range strings.Fields(c.names) {
			files = append(files, api.File{Name: name, Text: "val x = 1"})
		}
		refuse(t, files, api.Fault{Err: api.ErrTwice, File: c.at})
	}
	refuse(t, make([]api.File, 2), api.Fault{Err: api.ErrTwice, File: 1})
}

// noFiles is texts that are none, and why.
var noFiles = []struct {
	text string
	at   int
	err  api.Errno
}{
	{"val x =", 7, api.ErrForm},
	{"x", 0, api.ErrForm},
	{"  x", 2, api.ErrForm},
	{"val x = 1 signature s = T", 20, api.ErrForm},
	{"val x = 1x", 8, api.ErrByte},
	{"val x = \x00", 8, api.ErrByte},
	{"\xff", 0, api.ErrByte},
	{"val x = \"", 8, api.ErrOpen},
	{" (* (* *)", 1, api.ErrOpen},
	{"val val 1x", 8, api.ErrByte},
	{"val x = " + strings.Repeat("(", api.MaxNest), 8 + api.MaxNest - 1, api.ErrDeep},
}

// P10.1: a file that is none, told at the first such file, at its place, whatever stands in the others.
func TestNoFile(t *testing.T) {
	for _, c := range noFiles {
		if _, _, at, err := ast.File(c.text, 0, 0); at != c.at || err != c.err {
			t.Fatalf("%q: %d %v", c.text, at, err)
		}
		for ahead := range 4 {
			good := slices.Repeat([]string{"val x = y"}, ahead)
			for _, behind := range [][]string{nil, {"val x = 1"}, {"x"}, {"1x", "\"", "val"}} {
				refuse(t, texts(slices.Concat(good, []string{c.text}, behind)...), api.Fault{Err: c.err, File: ahead, At: c.at})
			}
		}
	}
}

// P10.1: as many files as may be, and one more.
func TestMostFiles(t *testing.T) {
	var files []api.File
	for i := range api.MaxFiles {
		files = append(files, api.File{Name: strconv.Itoa(i), Text: "val x = x"})
	}
	u := load(t, files...)
	if len(u.Files()) != api.MaxFiles || len(u.Nodes()) != api.MaxFiles || len(u.Occs()) != 2*api.MaxFiles {
		t.Fatal(len(u.Files()), len(u.Nodes()), len(u.Occs()))
	}
	if occ, ok := u.At(api.MaxFiles-1, 8); occ != 2*api.MaxFiles-1 || !ok {
		t.Fatal(occ, ok)
	}
	files = append(files, api.File{Name: "more"})
	refuse(t, files, api.Fault{Err: api.ErrMany, File: api.MaxFiles})
	refuse(t, append(files, files...), api.Fault{Err: api.ErrMany, File: api.MaxFiles})
	refuse(t, make([]api.File, 1<<20), api.Fault{Err: api.ErrMany, File: api.MaxFiles})
}

// P10.1: as many bytes as may be, and one more; names' bytes do not count.
func TestMostBytes(t *testing.T) {
	blanks := strings.Repeat(" ", api.MaxBytes+1)
	name := strings.Repeat("n", api.MaxBytes)
	of := func(sizes ...int) []api.File {
		var files []api.File
		for i, size := range sizes {
			files = append(files, api.File{Name: name[:len(name)-i], Text: blanks[:size]})
		}
		return files
	}
	const most = api.MaxBytes
	for _, sizes := range [][]int{{most}, {most, 0}, {0, most}, {most - 1, 1}, {1, most - 1, 0, 0}, {most / 2, most / 4, most / 4}} {
		if u := load(t, of(sizes...)...); len(u.Files()) != len(sizes) {
			t.Fatal(sizes)
		}
	}
	for _, c := range []struct {
		at    int
		sizes []int
	}{
		{0, []int{most + 1}},
		{0, []int{most + 1, most + 1}},
		{1, []int{most, 1}},
		{1, []int{1, most, 1}},
		{1, []int{0, most + 1, 0}},
		{2, []int{most, 0, 1, 1}},
		{4, []int{most / 2, most / 4, most / 4, 0, 1, 0}},
		{2, []int{most/2 + 1, most/2 - 1, most}},
	} {
		refuse(t, of(c.sizes...), api.Fault{Err: api.ErrLong, File: c.at})
	}
}

// P10.1, P1: of several things that are so the one that is named first is told, wherever the others stand.
func TestWhichFault(t *testing.T) {
	long := "(*" + strings.Repeat(" ", api.MaxBytes-2)
	bad := api.File{Name: "bad", Text: "val"}
	many := make([]api.File, api.MaxFiles+1)
	many[0], many[1] = bad, api.File{Name: "long", Text: long + long}
	refuse(t, many, api.Fault{Err: api.ErrMany, File: api.MaxFiles})
	refuse(t, []api.File{bad, bad, {Name: "c", Text: long}}, api.Fault{Err: api.ErrLong, File: 2})
	refuse(t, []api.File{{Name: "a", Text: long}, {Name: "b"}, bad, bad}, api.Fault{Err: api.ErrLong, File: 2})
	refuse(t, []api.File{bad, {Name: "a"}, {Name: "b", Text: "\x00"}, {Name: "a"}}, api.Fault{Err: api.ErrTwice, File: 3})
	refuse(t, []api.File{bad, bad}, api.Fault{Err: api.ErrTwice, File: 1})
	refuse(t, []api.File{{Name: "a"}, bad, {Name: "b", Text: long}}, api.Fault{Err: api.ErrLong, File: 2})
	refuse(t, []api.File{{Name: "a"}, {Name: "b", Text: long[:api.MaxBytes-3]}, bad}, api.Fault{Err: api.ErrOpen, File: 1})
}

// P10.1: what only resolving may refuse, and what other files say, does not matter.
func TestWhatIsNotRefused(t *testing.T) {
	for _, l := range [][]string{
		{"val x = y"},
		{"val (x, x) = 1"},
		{"fun f x = x and f y = y"},
		{"structure M : S = N", "signature S = sig end"},
		{"open M", "open M"},
		{"val x = 1", "val x = 1"},
	} {
		load(t, texts(l...)...)
	}
}
