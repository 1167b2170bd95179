package spell_test

import (
	"math/rand/v2"
	"slices"
	"strconv"
	"strings"
	"testing"

	"oriel/api"
	"oriel/name"
	"oriel/spell"
)

// Parts of which files are made: of each the kind is known without reading it. Many of the names are those that are fresh.
const (
	wordParts = "x y z x1 y1 z1 x2 x' x_ xX xval val' vals _"
	capParts  = "X Y Z X1 Y1 Z1 X2 X' X_ Xx Val Xval"
	signParts = "+ ++ +++ ++++ - -- * ** *** == === =>= || ::  ::: := :: >: ~ ^^ \\\\ // ?? ->> ! !!"
	keyParts  = "val end open op and functor"
	markParts = "( ) , . ; = => | : :> ->"
	varParts  = "'a 'x 'x1 'xX"
)

// noNames is parts, whole or not, that spell nothing, though some have names' bytes within.
func noNames() []string {
	l := strings.Fields(keyParts + " " + markParts + " " + varParts)
	return append(l, "_", "_x", "1", "12", "1x", "1X", "'", "''x", "'X", "\"x\"", "\"X + y\"", "\"\\\"x\"", "{", "}", "\xff", "é", "\x00",
		"(* x *)", "(* X (* ++ *) y *)", "(*x*)", "(**)", "\"x no end\n", "\"++ no end\\\n", "[", "]")
}

// names is parts that spell themselves.
func names() []string {
	return slices.DeleteFunc(strings.Fields(wordParts+" "+capParts+" "+signParts), func(s string) bool { return s == "_" })
}

// between is what may stand between two parts, so that both stay what they are.
var between = []string{" ", "\n", "\t", "\r\n", "  ", " (* x Z *) ", "\n(* (* -- *) y1 *)\n"}

// drawing is files, and what is spelled where in them.
type drawing struct {
	files []api.File
	where map[string][]api.Place
}

// draw makes files of parts, of which up to n of those of their own, and as many of those that are no names.
func draw(r *rand.Rand, parts []string, n int) drawing {
	d := drawing{where: map[string][]api.Place{}}
	known, others := names(), noNames()
	for file := range r.IntN(4) {
		var text strings.Builder
		for range r.IntN(n + 1) {
			part := others[r.IntN(len(others))]
			if r.IntN(3) > 0 {
				part = parts[r.IntN(len(parts))]
			}
			if slices.Contains(known, part) {
				d.where[part] = append(d.where[part], api.Place{File: file, At: text.Len()})
			}
			text.WriteString(part + between[r.IntN(len(between))])
		}
		if r.IntN(4) == 0 {
			text.WriteString([]string{"(* x", "\"x", "'", "1x", "val"}[r.IntN(5)])
		}
		d.files = append(d.files, api.File{Name: "f", Text: text.String()})
	}
	return d
}

// taken is all that is spelled, rising.
func (d drawing) taken() []string {
	var l []string
	for s := range d.where {
		l = append(l, s)
	}
	slices.Sort(l)
	return l
}

// fresh is the first text of those that are told by their numbers, from 0 on, which is spelled nowhere.
func (d drawing) fresh(told func(n int) string) string {
	for n := 0; ; n++ {
		if _, is := d.where[told(n)]; !is {
			return told(n)
		}
	}
}

// lettered tells x, y, z, x1, y1, z1 and so on, of these letters.
func lettered(letters string) func(n int) string {
	return func(n int) string {
		if n < 3 {
			return letters[n : n+1]
		}
		return letters[n%3:n%3+1] + strconv.Itoa(n/3)
	}
}

// wantFresh is what is fresh as told, and true; nothing, and false, of what is no name.
func (d drawing) wantFresh(like string) (string, bool) {
	if !slices.Contains(names(), like) {
		return "", false
	}
	switch b := like[0]; {
	case 'a' <= b && b <= 'z':
		return d.fresh(lettered("xyz")), true
	case 'A' <= b && b <= 'Z':
		return d.fresh(lettered("XYZ")), true
	}
	return d.fresh(func(n int) string { return strings.Repeat(like[:1], n+2) }), true
}

// drawings hands on very many drawings, of few names and of many.
func drawings(t *testing.T, do func(d drawing)) {
	t.Helper()
	r := rand.New(rand.NewPCG(16, 3))
	all := names()
	for i := range 2000 {
		parts := all
		switch i % 4 {
		case 0:
			parts = []string{"x", "X", "++", "--", "**"}
		case 1:
			parts = strings.Fields("x y z x1 y1 z1 X Y Z X1 ++ +++ ++++ == === **")
		}
		do(draw(r, parts, 1+i%60))
		if t.Failed() {
			return
		}
	}
}

// P16.1, P16.2: what is spelled in files that are made, and what is not.
func TestMadeFiles(t *testing.T) {
	asked := append(names(), noNames()...)
	asked = append(asked, "", "a", "A", "%%", "x y", "x ", " x", "M.x")
	drawings(t, func(d drawing) {
		if got := spell.Taken(d.files...); !slices.Equal(got, d.taken()) {
			t.Errorf("%q: %q, not %q", d.files, got, d.taken())
		}
		for _, s := range asked {
			if got := spell.Places(s, d.files...); !slices.Equal(got, d.where[s]) {
				t.Errorf("%q: %q at %v, not %v", d.files, s, got, d.where[s])
			}
			isName := slices.Contains(names(), s) || s == "a" || s == "A" || s == "%%"
			if got, want := spell.Free(s, d.files...), isName && len(d.where[s]) == 0; got != want {
				t.Errorf("%q: %q free: %v", d.files, s, got)
			}
		}
		for _, s := range append(names(), noNames()...) {
			got, ok := spell.Fresh(s, d.files...)
			if want, wantOk := d.wantFresh(s); got != want || ok != wantOk {
				t.Errorf("%q: %q for %q: %v, not %q", d.files, got, s, ok, want)
			}
		}
	})
}

// P16.3: what is fresh is free, and alike; spelled in one more file it is taken, and nothing else is.
func TestFreshIsFreeAndThenTaken(t *testing.T) {
	drawings(t, func(d drawing) {
		taken := spell.Taken(d.files...)
		for _, like := range names() {
			s, ok := spell.Fresh(like, d.files...)
			if !ok || !spell.Free(s, d.files...) || !name.Alike(s, like) || len(spell.Places(s, d.files...)) > 0 || slices.Contains(taken, s) {
				t.Errorf("%q: %q for %q: %v", d.files, s, like, ok)
			}
			more := append(slices.Clone(d.files), api.File{Text: s})
			want := append(slices.Clone(taken), s)
			slices.Sort(want)
			if got := spell.Taken(more...); !slices.Equal(got, want) {
				t.Errorf("%q: %q, not %q", more, got, want)
			}
			if got := spell.Places(s, more...); !slices.Equal(got, []api.Place{{File: len(d.files)}}) || spell.Free(s, more...) {
				t.Errorf("%q: %q at %v", more, s, got)
			}
			if next, ok := spell.Fresh(like, more...); !ok || next == s {
				t.Errorf("%q: %q for %q: %v", more, next, like, ok)
			}
		}
	})
}
