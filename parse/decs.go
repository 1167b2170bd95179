package parse

import "oriel/api"

// Where declarations stand: each place takes all that those ahead of it take.
const (
	inLet = iota
	inStruct
	inFile
)

// file reads a file.
func (r *reader) file() api.Branch {
	return r.branch(api.NdFile, 0, nil, r.decs(inFile)...)
}

// decs reads declarations that stand there, as many as there are.
func (r *reader) decs(where int) []api.Branch {
	var l []api.Branch
	for {
		switch {
		case r.pass(";"):
		case r.declares(inFile): // whether it may stand there is asked behind how deep it lies
			l = append(l, r.dec(where))
		default:
			return l
		}
	}
}

// declares says whether a declaration begins that may stand there.
func (r *reader) declares(where int) bool {
	switch r.text(r.next) {
	case "signature", "functor":
		if where < inFile {
			return false
		}
		fallthrough // where these stand all others do
	case "structure":
		if where < inStruct {
			return false
		}
		fallthrough // and where a structure stands all that stand in a let
	case "val", "fun", "type", "datatype", "open", "local":
		return true
	}
	return false
}

// dec reads a declaration, which has to be one that may stand there.
func (r *reader) dec(where int) api.Branch {
	return r.part(func(from int) api.Branch {
		r.expect(r.declares(where))
		r.next++
		switch r.text(from) {
		case "val":
			pat := r.pat()
			r.need("=")
			return r.branch(api.NdVal, from, nil, pat, r.exp())
		case "fun":
			return r.branch(api.NdFun, from, nil, r.row("and", (*reader).function)...)
		case "type":
			name := r.typeName()
			r.need("=")
			return r.branch(api.NdType, from, name, r.ty())
		case "datatype":
			return r.datatypes(from)
		case "structure":
			return r.structure(from)
		case "signature":
			name := r.take(api.TkCap)
			r.need("=")
			return r.branch(api.NdSig, from, []int{name}, r.sig())
		case "functor":
			return r.functor(from)
		case "open":
			return r.branch(api.NdOpen, from, r.path(api.TkCap))
		}
		return r.local(from, where)
	})
}

// function reads one function of a fun.
func (r *reader) function() api.Branch {
	from := r.next
	name := r.value()
	kids := []api.Branch{r.atomicPat()}
	for r.begins("_") {
		kids = append(kids, r.atomicPat())
	}
	r.need("=")
	kids = append(kids, r.exp())
	return r.branch(api.NdFbind, from, []int{name}, kids...)
}

// typeName takes the name of a type that is declared, with the type variables ahead of it.
func (r *reader) typeName() []int {
	switch {
	case r.kind() == api.TkVar:
		r.next++
	case r.pass("("):
		r.take(api.TkVar)
		for r.pass(",") {
			r.take(api.TkVar)
		}
		r.need(")")
	}
	return []int{r.take(api.TkWord)}
}

// datatypes reads what stands behind datatype, which is the token from.
func (r *reader) datatypes(from int) api.Branch {
	return r.branch(api.NdData, from, nil, r.row("and", func(r *reader) api.Branch {
		from := r.next
		name := r.typeName()
		r.need("=")
		return r.branch(api.NdDbind, from, name, r.row("|", (*reader).constructor)...)
	})...)
}

// constructor reads a constructor that is declared.
func (r *reader) constructor() api.Branch {
	from := r.next
	name := []int{r.take(api.TkCap)}
	if r.pass("of") {
		return r.branch(api.NdCon, from, name, r.ty())
	}
	return r.branch(api.NdCon, from, name)
}

// structure reads what stands behind structure, which is the token from.
func (r *reader) structure(from int) api.Branch {
	name := r.take(api.TkCap)
	mark, kids := r.body()
	return marked(mark, r.branch(api.NdStr, from, []int{name}, kids...))
}

// functor reads what stands behind functor, which is the token from.
func (r *reader) functor(from int) api.Branch {
	name := r.take(api.TkCap)
	r.need("(")
	parameter := r.take(api.TkCap)
	r.need(":")
	kids := []api.Branch{r.sig()}
	r.need(")")
	mark, more := r.body()
	return marked(mark, r.branch(api.NdFunctor, from, []int{name, parameter}, append(kids, more...)...))
}

// body reads what a structure or a functor is declared to be: a signature, if there is one, with its mark, and a structure.
func (r *reader) body() (int, []api.Branch) {
	var kids []api.Branch
	mark := r.colon()
	if mark != 0 {
		kids = append(kids, r.sig())
	}
	r.need("=")
	return mark, append(kids, r.str())
}

// colon goes past the mark ahead of a signature, and tells its number: 1 of :, 2 of :>, 0, if there is none.
func (r *reader) colon() int {
	switch {
	case r.pass(":"):
		return 1
	case r.pass(":>"):
		return 2
	}
	return 0
}

// local reads what stands behind local, which is the token from.
func (r *reader) local(from, where int) api.Branch {
	first := r.within(where)
	r.need("in")
	second := r.within(where)
	r.need("end")
	return r.branch(api.NdLocal, from, nil, first, second)
}

// within reads declarations as a part of their own: those of a local or a let.
func (r *reader) within(where int) api.Branch {
	from := r.next
	return r.branch(api.NdDecs, from, nil, r.decs(where)...)
}
