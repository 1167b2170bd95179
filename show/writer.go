package show

import (
	"oriel/api"
	"oriel/name"
)

// writer tells nodes by their tokens.
type writer struct {
	list
	names []string
}

// teller tells a node: how, hangs on where it stands.
type teller func(n *api.Node)

// kid is the kid i of n; if it is not there, a node that has no tokens.
func kid(n *api.Node, i int) *api.Node {
	if i >= len(n.Kids) {
		return &api.Node{}
	}
	return &n.Kids[i]
}

// name is the name i of n; _, if there is none.
func (w *writer) name(n *api.Node, i int) string {
	if i < len(n.Occs) {
		if o := n.Occs[i]; 0 <= o && o < len(w.names) {
			return w.names[o]
		}
	}
	return "_"
}

// value puts the name i of n, one that stands behind op, if it is a sign.
func (w *writer) value(n *api.Node, i int) {
	s := w.name(n, i)
	if name.Kind(s) == api.TkSign {
		w.put("op")
	}
	w.put(s)
}

// path puts all names of n, with dots between them.
func (w *writer) path(n *api.Node) {
	part := w.parted(".")
	for i := range n.Occs {
		part()
		w.value(n, i)
	}
}

// kids puts words, and tells behind each one the kid of its number.
func (w *writer) kids(n *api.Node, words ...string) {
	for i, word := range words {
		w.put(word)
		w.node(kid(n, i))
	}
}

// row tells nodes, with these words between each two.
func (w *writer) row(l []api.Node, tell teller, between ...string) {
	part := w.parted(between...)
	for i := range l {
		part()
		tell(&l[i])
	}
}

// tuple tells all kids of n together.
func (w *writer) tuple(n *api.Node) {
	w.put("(")
	w.row(n.Kids, w.node, ",")
	w.put(")")
}

// grouped tells n, in parentheses, if it needs them.
func (w *writer) grouped(n *api.Node, needs bool) {
	if !needs {
		w.node(n)
		return
	}
	w.put("(")
	w.node(n)
	w.put(")")
}

// optional tells the first kid of n, if there is one, behind a word.
func (w *writer) optional(n *api.Node, word string) {
	if len(n.Kids) > 0 {
		w.kids(n, word)
	}
}

// node tells n, which may stand where it stands as it is.
func (w *writer) node(n *api.Node) { w.tell(n, w.node) }

// tell tells n; if it is an expression that ends with another one, that one by last. Kinds are numbered by what they are, declarations first.
func (w *writer) tell(n *api.Node, last teller) {
	switch {
	case n.Kind <= api.NdLocal:
		w.declaration(n)
	case n.Kind <= api.NdInclude:
		w.module(n)
	case n.Kind <= api.NdInfix:
		w.expression(n, last)
	default:
		w.patternOrType(n)
	}
}
