package show

import "oriel/api"

// declaration tells n, declarations or a part of one.
func (w *writer) declaration(n *api.Node) {
	switch n.Kind {
	case api.NdFile, api.NdDecs:
		w.row(n.Kids, w.node)
	case api.NdVal:
		w.kids(n, "val", "=")
	case api.NdFun:
		w.put("fun")
		w.row(n.Kids, w.node, "and")
	case api.NdFbind:
		w.function(n)
	case api.NdType:
		w.put("type", w.name(n, 0))
		w.kids(n, "=")
	case api.NdData:
		w.put("datatype")
		w.row(n.Kids, w.node, "and")
	case api.NdDbind:
		w.put(w.name(n, 0), "=")
		w.row(n.Kids, w.node, "|")
	case api.NdCon:
		w.put(w.name(n, 0))
		w.optional(n, "of")
	case api.NdStr:
		w.put("structure", w.name(n, 0))
		w.body(n, 0)
	case api.NdSig:
		w.put("signature", w.name(n, 0))
		w.kids(n, "=")
	case api.NdFunctor:
		w.put("functor", w.name(n, 0), "(", w.name(n, 1))
		w.kids(n, ":")
		w.put(")")
		w.body(n, 1)
	case api.NdOpen:
		w.put("open")
		w.path(n)
	case api.NdLocal:
		w.kids(n, "local", "in")
		w.put("end")
	}
}

// function tells one function of a fun: its last kid is the expression, all others are parameters.
func (w *writer) function(n *api.Node) {
	w.value(n, 0)
	last := max(len(n.Kids)-1, 0)
	w.row(n.Kids[:last], w.argument)
	w.put("=")
	w.node(kid(n, last))
}

// body tells what the structure or functor n is declared to be, which its kids from that one on say: a signature, if its mark is one's, and a structure.
func (w *writer) body(n *api.Node, from int) {
	if mark := colon(n.Mark); mark != nil {
		w.put(mark...)
		w.node(kid(n, from))
		from++
	}
	w.put("=")
	w.node(kid(n, from))
}

// colon is what stands ahead of a signature with this mark; nothing of a mark that is none's.
func colon(mark int) []string {
	switch mark {
	case 1:
		return []string{":"}
	case 2:
		return []string{":>"}
	}
	return nil
}

// module tells n, a structure, a signature or a specification.
func (w *writer) module(n *api.Node) {
	switch n.Kind {
	case api.NdStruct:
		w.put("struct")
		w.row(n.Kids, w.node)
		w.put("end")
	case api.NdPath:
		w.path(n)
	case api.NdApply:
		w.put(w.name(n, 0))
		w.kids(n, "(")
		w.put(")")
	case api.NdSeal:
		w.node(kid(n, 0))
		w.put(colon(n.Mark)...)
		w.node(kid(n, 1))
	case api.NdBody:
		w.put("sig")
		w.row(n.Kids, w.node)
		w.put("end")
	case api.NdSigUse:
		w.put(w.name(n, 0))
	case api.NdWhere:
		w.node(kid(n, 0))
		w.put("where", "type")
		w.path(n)
		w.put("=")
		w.node(kid(n, 1))
	case api.NdValSpec:
		w.put("val")
		w.value(n, 0)
		w.kids(n, ":")
	case api.NdTySpec:
		w.put("type", w.name(n, 0))
		w.optional(n, "=")
	case api.NdStrSpec:
		w.put("structure", w.name(n, 0))
		w.kids(n, ":")
	case api.NdInclude:
		w.kids(n, "include")
	}
}
