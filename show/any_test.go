package show_test

import (
	"math/rand/v2"
	"strconv"
	"strings"
	"testing"

	"oriel/api"
	"oriel/name"
	"oriel/show"
)

// forms is what each kind is told as: $ and a number stand for a name, ! and a number for one that may stand behind op, @ for the path, # and a number for a kid, {X} for all kids with X between each two, [ ] around what stands just if there is a kid. What has other forms stands in formOf.
var forms = map[int]string{
	api.NdFile: "{}", api.NdDecs: "{}", api.NdVal: "val #0 = #1", api.NdFun: "fun {and}", api.NdType: "type $0 = #0",
	api.NdData: "datatype {and}", api.NdDbind: "$0 = {|}", api.NdCon: "$0 [ of #0 ]", api.NdSig: "signature $0 = #0",
	api.NdOpen: "open @", api.NdLocal: "local #0 in #1 end", api.NdStruct: "struct {} end", api.NdPath: "@", api.NdApply: "$0 ( #0 )",
	api.NdBody: "sig {} end", api.NdSigUse: "$0", api.NdWhere: "#0 where type @ = #1", api.NdValSpec: "val !0 : #0",
	api.NdTySpec: "type $0 [ = #0 ]", api.NdStrSpec: "structure $0 : #0", api.NdInclude: "include #0",
	api.NdInt: "0", api.NdText: `""`, api.NdVar: "@", api.NdConUse: "@ #0", api.NdTuple: "( {,} )", api.NdIf: "if #0 then #1 else #2",
	api.NdArm: "#0 => #1", api.NdFn: "fn #0 => #1", api.NdLet: "let #0 in #1 end", api.NdCall: "{}", api.NdAny: "_", api.NdBind: "!0",
	api.NdAs: "$0 as #0", api.NdTyVar: "'a", api.NdArrow: "#0 -> #1", api.NdProd: "{*}",
}

// marked is the forms of kinds with a mark, by the mark.
var marked = map[int][3]string{
	api.NdStr:     {"structure $0 = #0", "structure $0 : #0 = #1", "structure $0 :> #0 = #1"},
	api.NdFunctor: {"functor $0 ( $1 : #0 ) = #1", "functor $0 ( $1 : #0 ) : #1 = #2", "functor $0 ( $1 : #0 ) :> #1 = #2"},
	api.NdSeal:    {"#0 #1", "#0 : #1", "#0 :> #1"},
}

// formOf is what n is told as.
func formOf(n api.Node) string {
	kids := func(from, to int, between string) string {
		var l []string
		for i := from; i < to; i++ {
			l = append(l, "#"+strconv.Itoa(i))
		}
		return strings.Join(l, " "+between+" ")
	}
	switch n.Kind {
	case api.NdFbind:
		last := max(len(n.Kids)-1, 0)
		return "!0 " + kids(0, last, "") + " = #" + strconv.Itoa(last)
	case api.NdCase:
		return "case #0 of " + kids(1, len(n.Kids), "|")
	case api.NdInfix:
		form := "#0"
		for i := range max(len(n.Kids)-1, len(n.Occs)) {
			form += " $" + strconv.Itoa(i) + " #" + strconv.Itoa(i+1)
		}
		return form
	case api.NdTyUse:
		if len(n.Kids) > 1 {
			return "( " + kids(0, len(n.Kids), ",") + " ) @"
		}
		return "#0 @"
	}
	if m, ok := marked[n.Kind]; ok {
		if n.Mark == 1 || n.Mark == 2 {
			return m[n.Mark]
		}
		return m[0]
	}
	form := forms[n.Kind]
	if i := strings.Index(form, "{"); i >= 0 {
		j := strings.Index(form, "}")
		form = form[:i] + kids(0, len(n.Kids), form[i+1:j]) + form[j+1:]
	}
	if i := strings.Index(form, "["); i >= 0 {
		if len(n.Kids) == 0 {
			return form[:i]
		}
		form = strings.NewReplacer("[", "", "]", "").Replace(form)
	}
	return form
}

// stand is a node that is the kid number of the last one of those around it.
type stand struct {
	node   api.Node
	number int
}

// grouped says whether parentheses stand around the last one of these, of which each is a kid of the one ahead of it.
func grouped(l []stand) bool {
	if len(l) < 2 {
		return false
	}
	at, up := l[len(l)-1], l[len(l)-2]
	wide := at.node.Kind == api.NdIf || at.node.Kind == api.NdCase || at.node.Kind == api.NdFn || at.node.Kind == api.NdInfix
	widePat := at.node.Kind == api.NdAs || at.node.Kind == api.NdConUse && len(at.node.Kids) > 0
	many := at.node.Kind == api.NdArrow || at.node.Kind == api.NdProd
	switch up.node.Kind {
	case api.NdInfix:
		return wide
	case api.NdCall:
		return wide || at.node.Kind == api.NdCall
	case api.NdConUse:
		return widePat
	case api.NdFbind:
		return widePat && at.number < len(up.node.Kids)-1
	case api.NdArrow:
		return at.number == 0 && at.node.Kind == api.NdArrow
	case api.NdProd:
		return many
	case api.NdTyUse:
		return len(up.node.Kids) == 1 && many
	}
	return at.node.Kind == api.NdCase && endsArm(l)
}

// endsArm says whether the last one of these ends the expression of an arm behind which another kid comes.
func endsArm(l []stand) bool {
	for i := len(l) - 1; i >= 2; i-- {
		at, up, top := l[i], l[i-1], l[i-2]
		switch {
		case up.node.Kind == api.NdIf && at.number == 2 || up.node.Kind == api.NdFn && at.number == 1:
		case up.node.Kind == api.NdArm && at.number == 1:
			return top.node.Kind == api.NdCase && up.number < len(top.node.Kids)-1
		default:
			return false
		}
	}
	return false
}

// tokens is the text of the last one of these, told by its form.
func tokens(l []stand, names []string) []string {
	n := l[len(l)-1].node
	nameOf := func(i int) string {
		if i < len(n.Occs) && 0 <= n.Occs[i] && n.Occs[i] < len(names) {
			return names[n.Occs[i]]
		}
		return "_"
	}
	behindOp := func(s string) []string {
		if name.Kind(s) == api.TkSign {
			return []string{"op", s}
		}
		return []string{s}
	}
	var out []string
	for _, token := range strings.Fields(formOf(n)) {
		i, _ := strconv.Atoi(token[1:])
		switch {
		case token[0] == '$':
			out = append(out, nameOf(i))
		case token[0] == '!':
			out = append(out, behindOp(nameOf(i))...)
		case token[0] == '@':
			for j := range n.Occs {
				if j > 0 {
					out = append(out, ".")
				}
				out = append(out, behindOp(nameOf(j))...)
			}
		case token[0] == '#' && i < len(n.Kids):
			below := append(l[:len(l):len(l)], stand{n.Kids[i], i})
			inner := tokens(below, names)
			if grouped(below) {
				inner = append(append([]string{"("}, inner...), ")")
			}
			out = append(out, inner...)
		case token[0] != '#':
			out = append(out, token)
		}
	}
	return out
}

// heldAgainst holds what n is told as against what its form says.
func heldAgainst(t *testing.T, n api.Node, names []string) {
	t.Helper()
	want := strings.Join(tokens([]stand{{n, 0}}, names), " ")
	if got := show.Show(n, names); got != want {
		t.Fatalf("%+v %q:\n got %s\nwant %s", n, names, got, want)
	}
}

// strange is names as no file has them, too.
var strange = []string{"x", "+", "M", "", "=", "a b", "::", "val", "=>", "\x00\xff", "+x", "op +"}

// node is a node of kinds told by kind, whatever stands in it.
func node(rng *rand.Rand, deep int, kind func() int) api.Node {
	n := api.Node{Kind: kind(), Mark: rng.IntN(5) - 1, At: rng.IntN(9) - 4, End: rng.IntN(9) - 4}
	for range rng.IntN(4) {
		n.Occs = append(n.Occs, rng.IntN(len(strange)+4)-2)
	}
	if deep > 0 {
		for range rng.IntN(5) {
			n.Kids = append(n.Kids, node(rng, rng.IntN(deep), kind))
		}
	}
	return n
}

// P9.1, P1: the text of any node, of any kinds in one another.
func TestAnyNode(t *testing.T) {
	rng := rand.New(rand.NewPCG(9, 1))
	sorts := [][]int{
		{api.NdIf, api.NdCase, api.NdArm, api.NdFn, api.NdInfix, api.NdCall, api.NdVar},
		{api.NdCase, api.NdCase, api.NdArm, api.NdArm, api.NdArm, api.NdIf, api.NdFn, api.NdLet},
		{api.NdAs, api.NdConUse, api.NdFbind, api.NdBind, api.NdTuple, api.NdFun},
		{api.NdArrow, api.NdProd, api.NdTyUse, api.NdTyVar, api.NdWhere, api.NdCon},
	}
	for i := range 60000 {
		kind := func() int { return rng.IntN(50) - 2 }
		if sort := i % 8; sort < len(sorts) {
			kind = func() int { return sorts[sort][rng.IntN(len(sorts[sort]))] }
		}
		heldAgainst(t, node(rng, 7, kind), strange[:rng.IntN(len(strange)+1)])
	}
}

// P9.1: each kind as each kid of each kind, of none to four kids, with each mark, with and without kids of its own.
func TestKindInKind(t *testing.T) {
	for up := -1; up <= api.NdProd+1; up++ {
		for below := -1; below <= api.NdProd+1; below++ {
			for n := range 5 {
				for at := range n {
					kids := make([]api.Node, n)
					for i := range kids {
						kids[i] = api.Node{Kind: api.NdBind, Occs: []int{0}}
					}
					kids[at] = api.Node{Kind: below, Mark: n % 3, Occs: []int{1}, Kids: make([]api.Node, (n+at)%3)}
					heldAgainst(t, api.Node{Kind: up, Mark: at % 3, Occs: []int{1, 0}[:n%3], Kids: kids}, strange)
				}
			}
		}
	}
}

// P9.1: what an arm ends with, through each few of the kinds that an expression may end with, and others.
func TestEnds(t *testing.T) {
	through := []int{api.NdIf, api.NdFn, api.NdArm, api.NdCase, api.NdLet, api.NdTuple, api.NdCall, api.NdInfix}
	var grow func(n api.Node, deep int)
	grow = func(n api.Node, deep int) {
		for _, arms := range [][]api.Node{{n}, {n, {}}, {{}, n}, {{}, n, {}}, {{}, {}, n}, {n, n, n, n}} {
			heldAgainst(t, api.Node{Kind: api.NdCase, Kids: arms}, nil)
		}
		if deep == 0 {
			return
		}
		for _, kind := range through {
			for at := range 4 {
				kids := make([]api.Node, 1+max(at, deep%3))
				kids[at] = n
				grow(api.Node{Kind: kind, Kids: kids}, deep-1)
			}
		}
	}
	grow(api.Node{Kind: api.NdCase}, 3)
}
