package show

import "oriel/api"

// expression tells n, an expression, a part of one, or a pattern of a kind that expressions have, too; the expression with which an if or a fn ends by last.
func (w *writer) expression(n *api.Node, last teller) {
	switch n.Kind {
	case api.NdInt:
		w.put("0")
	case api.NdText:
		w.put(`""`)
	case api.NdConUse:
		if len(n.Kids) > 0 {
			w.path(n)
			w.argument(&n.Kids[0])
			return
		}
		fallthrough // without an argument it is a path alone
	case api.NdVar:
		w.path(n)
	case api.NdTuple:
		w.tuple(n)
	case api.NdIf:
		w.kids(n, "if", "then")
		w.put("else")
		last(kid(n, 2))
	case api.NdCase:
		w.choice(n)
	case api.NdArm:
		w.clause(n, w.node)
	case api.NdFn:
		w.put("fn")
		w.clause(n, last)
	case api.NdLet:
		w.kids(n, "let", "in")
		w.put("end")
	case api.NdCall:
		w.row(n.Kids, w.atom)
	case api.NdInfix:
		w.infix(n)
	}
}

// choice tells a case. A case with which an arm ends would take the arms behind that one, if it stood as it is.
func (w *writer) choice(n *api.Node) {
	end := len(n.Kids) - 1
	member := func(i int) {
		if arm := kid(n, i); arm.Kind == api.NdArm && i < end {
			w.clause(arm, w.closed)
			return
		}
		w.node(kid(n, i))
	}
	w.put("case")
	member(0)
	w.put("of")
	part := w.parted("|")
	for i := 1; i <= end; i++ {
		part()
		member(i)
	}
}

// clause tells a pattern, and by last its expression.
func (w *writer) clause(n *api.Node, last teller) {
	w.node(kid(n, 0))
	w.put("=>")
	last(kid(n, 1))
}

// closed tells an expression; the case that ends it, if one does, in parentheses.
func (w *writer) closed(n *api.Node) {
	if n.Kind == api.NdCase {
		w.grouped(n, true)
		return
	}
	w.tell(n, w.closed)
}

// infix tells signs, and what stands between them.
func (w *writer) infix(n *api.Node) {
	w.operand(kid(n, 0))
	for i := range max(len(n.Occs), len(n.Kids)-1) {
		w.put(w.name(n, i))
		w.operand(kid(n, i+1))
	}
}

// operand tells what stands beside a sign.
func (w *writer) operand(n *api.Node) { w.grouped(n, wide(n)) }

// atom tells a kid of a call.
func (w *writer) atom(n *api.Node) { w.grouped(n, wide(n) || n.Kind == api.NdCall) }

// wide says whether n is an expression that is neither a call nor a part of one as it stands.
func wide(n *api.Node) bool {
	switch n.Kind {
	case api.NdIf, api.NdCase, api.NdFn, api.NdInfix:
		return true
	}
	return false
}

// argument tells the pattern behind a constructor, or a parameter of a function.
func (w *writer) argument(n *api.Node) {
	w.grouped(n, n.Kind == api.NdAs || n.Kind == api.NdConUse && len(n.Kids) > 0)
}

// patternOrType tells n, a pattern or a type.
func (w *writer) patternOrType(n *api.Node) {
	switch n.Kind {
	case api.NdAny:
		w.put("_")
	case api.NdBind:
		w.value(n, 0)
	case api.NdAs:
		w.put(w.name(n, 0))
		w.kids(n, "as")
	case api.NdTyVar:
		w.put("'a")
	case api.NdTyUse:
		switch len(n.Kids) {
		case 0:
		case 1:
			w.factor(&n.Kids[0])
		default:
			w.tuple(n)
		}
		w.path(n)
	case api.NdArrow:
		w.grouped(kid(n, 0), kid(n, 0).Kind == api.NdArrow)
		w.put("->")
		w.node(kid(n, 1))
	case api.NdProd:
		w.row(n.Kids, w.factor, "*")
	}
}

// factor tells a kid of a product, or what stands alone ahead of a type's path.
func (w *writer) factor(n *api.Node) {
	w.grouped(n, n.Kind == api.NdArrow || n.Kind == api.NdProd)
}
