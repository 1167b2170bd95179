package unit_test

import (
	"math/rand/v2"
	"strconv"
	"strings"
	"testing"

	"oriel/api"
	"oriel/unit"
)

// letters is how spaces are drawn: of what uses; of what declares great.
const letters = "-vctsgf"

// snippets is declarations, token by token; behind the ` of a name stands what it is.
var snippets = []string{
	"val x`V = 1",
	"val x`V = x`v",
	"val ( x`V , _ , A`c y`V ) = M`s . f`v x`v +`v \"x(*y\"",
	"val op ++`V = fn z`V => z`v <=`v op ++`v",
	"val y`V = if a`v then b`v else case c`v of A`c => 1 | M`s . B`c z`V => z`v",
	"val x`V = let open M`s open N`s . O`s val y`V = y`v in y`v end",
	"fun f`V x`V = g`v x`v and g`V ( ) = f`v",
	"type t`T = 'a list`t * M`s . t`t -> int`t",
	"datatype 'a t`T = A`C | B`C of 'a t`t and u`T = C`C",
	"open M`s",
	"open M`s . N`s . O`s ;",
	"local open M`s in open N`s val x`V = x`v end",
	"local in end",
	"; ;",
	"structure M`S = struct open N`s local open O`s . P`s in open Q`s end val x`V = 1 end",
	"structure M`S :> S`g = F`f ( struct open N`s end )",
	"structure Long_name'1`S = struct structure N`S = M`s end : sig structure N`S : S`g end",
	"signature S`G = sig val x`V : 'a type t`T include T`g end where type M`s . t`t = u`t",
	"functor F`F ( X`S : S`g ) = struct open X`s end",
}

// gaps is what may stand between tokens.
var gaps = []string{" ", "\n", "\t \r\n", " (* val x = open M *) ", "(* (* *) \" *)\n", "  "}

// project is files, and what a unit of them is to have.
type project struct {
	files []api.File
	occs  []api.Occ
	names []string
	opens []unit.Open
}

// newProject is a project of n files, each of up to most declarations.
func newProject(seed uint64, n, most int) *project {
	rng := rand.New(rand.NewPCG(seed, 10))
	p := &project{}
	for i := range n {
		var l []string
		for range rng.IntN(most + 1) {
			l = append(l, snippets[rng.IntN(len(snippets))])
		}
		p.lay("file "+strconv.Itoa(i), strings.Fields(strings.Join(l, " ")), func() string { return gaps[rng.IntN(len(gaps))] })
	}
	return p
}

// lay adds a file of these tokens, with a gap ahead of each one, and behind the last one.
func (p *project) lay(name string, tokens []string, gap func() string) {
	var s strings.Builder
	inOpen := false // whether what stands here may be an open's path
	for _, drawn := range tokens {
		s.WriteString(gap())
		token, letter, isName := strings.Cut(drawn, "`")
		at := s.Len()
		s.WriteString(token)
		switch {
		case isName:
			if inOpen {
				open := &p.opens[len(p.opens)-1].Node
				open.Occs = append(open.Occs, len(p.occs))
				open.End = s.Len()
			}
			p.name(token, letter, at)
		case token == "open":
			p.opens = append(p.opens, unit.Open{File: len(p.files), Node: api.Node{Kind: api.NdOpen, At: at}})
		}
		inOpen = token == "open" || inOpen && (isName || token == ".")
	}
	s.WriteString(gap())
	p.files = append(p.files, api.File{Name: name, Text: s.String()})
}

// name adds an occurrence in the file that is being laid.
func (p *project) name(token, letter string, at int) {
	small := strings.ToLower(letter)
	p.occs = append(p.occs, api.Occ{
		File: len(p.files), At: at, End: at + len(token), Space: strings.Index(letters, small), Decl: letter != small,
	})
	p.names = append(p.names, token)
}

// load is the unit of files that have one.
func load(t *testing.T, files ...api.File) *unit.Unit {
	t.Helper()
	u, fault := unit.Load(files...)
	if u == nil || fault != (api.Fault{}) {
		t.Fatalf("%.300q: %v", files, fault)
	}
	return u
}

// texts is files of these texts, with names of their own.
func texts(l ...string) []api.File {
	var files []api.File
	for i, s := range l {
		files = append(files, api.File{Name: "f" + strconv.Itoa(i), Text: s})
	}
	return files
}
