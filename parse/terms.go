package parse

import "oriel/api"

// begins says whether an atom begins, of an expression or of a pattern; one of the other texts begins one, too.
func (r *reader) begins(others ...string) bool {
	switch r.kind() {
	case api.TkInt, api.TkText, api.TkWord, api.TkCap:
		return true
	}
	return r.is("op", "(") || r.is(others...)
}

// exp reads an expression.
func (r *reader) exp() api.Branch {
	return r.part(func(from int) api.Branch {
		switch {
		case r.pass("if"):
			test := r.exp()
			r.need("then")
			yes := r.exp()
			r.need("else")
			return r.branch(api.NdIf, from, nil, test, yes, r.exp())
		case r.pass("case"):
			kids := []api.Branch{r.exp()}
			r.need("of")
			kids = append(kids, r.row("|", (*reader).arm)...)
			return r.branch(api.NdCase, from, nil, kids...)
		case r.pass("fn"):
			return r.clause(api.NdFn, from)
		}
		return r.infix()
	})
}

// arm reads an arm of a case.
func (r *reader) arm() api.Branch { return r.clause(api.NdArm, r.next) }

// clause reads a pattern and its expression, as a branch of this kind.
func (r *reader) clause(kind, from int) api.Branch {
	pat := r.pat()
	r.need("=>")
	return r.branch(kind, from, nil, pat, r.exp())
}

// infix reads calls with signs between them; one alone is itself.
func (r *reader) infix() api.Branch {
	from := r.next
	kids := []api.Branch{r.call()}
	var signs []int
	for r.kind() == api.TkSign {
		signs = append(signs, r.take(api.TkSign))
		kids = append(kids, r.call())
	}
	if len(kids) == 1 {
		return kids[0]
	}
	return r.branch(api.NdInfix, from, signs, kids...)
}

// call reads atoms beside one another; one alone is itself.
func (r *reader) call() api.Branch {
	from := r.next
	kids := []api.Branch{r.atom()}
	for r.begins("let") {
		kids = append(kids, r.atom())
	}
	if len(kids) == 1 {
		return kids[0]
	}
	return r.branch(api.NdCall, from, nil, kids...)
}

// atom reads an atom of an expression.
func (r *reader) atom() api.Branch {
	from := r.next
	switch {
	case r.kind() == api.TkCap:
		path := r.path(api.TkCap, api.TkWord)
		if r.words[r.next-1].Kind == api.TkCap {
			return r.branch(api.NdConUse, from, path)
		}
		return r.branch(api.NdVar, from, path)
	case r.pass("let"):
		decs := r.within(inLet)
		r.need("in")
		exp := r.exp()
		r.need("end")
		return r.branch(api.NdLet, from, nil, decs, exp)
	}
	return r.plain(api.NdVar, (*reader).exp)
}

// plain reads what is an atom of expressions and of patterns alike, but for the kind of a value's name, and for what stands within ( ).
func (r *reader) plain(named int, member func(r *reader) api.Branch) api.Branch {
	from := r.next
	switch {
	case r.kind() == api.TkInt:
		r.next++
		return r.branch(api.NdInt, from, nil)
	case r.kind() == api.TkText:
		r.next++
		return r.branch(api.NdText, from, nil)
	case r.pass("("):
		return r.tuple(from, member)
	}
	return r.branch(named, from, []int{r.value()})
}

// tuple reads members up to the ) that belongs to the token from; one alone is itself.
func (r *reader) tuple(from int, member func(r *reader) api.Branch) api.Branch {
	if r.pass(")") {
		return r.branch(api.NdTuple, from, nil)
	}
	kids := r.row(",", member)
	r.need(")")
	if len(kids) == 1 {
		return kids[0]
	}
	return r.branch(api.NdTuple, from, nil, kids...)
}

// pat reads a pattern.
func (r *reader) pat() api.Branch {
	return r.part(func(from int) api.Branch {
		switch {
		case r.kind() == api.TkWord && r.text(from+1) == "as":
			r.next += 2
			return r.branch(api.NdAs, from, []int{from}, r.pat())
		case r.kind() == api.TkCap:
			path := r.path(api.TkCap)
			if r.begins("_") {
				return r.branch(api.NdConUse, from, path, r.atomicPat())
			}
			return r.branch(api.NdConUse, from, path)
		}
		return r.atomicPat()
	})
}

// atomicPat reads a pattern that may be a parameter.
func (r *reader) atomicPat() api.Branch {
	from := r.next
	switch {
	case r.pass("_"):
		return r.branch(api.NdAny, from, nil)
	case r.kind() == api.TkCap:
		return r.branch(api.NdConUse, from, r.path(api.TkCap))
	}
	return r.plain(api.NdBind, (*reader).pat)
}

// ty reads a type.
func (r *reader) ty() api.Branch {
	return r.part(func(from int) api.Branch {
		b := r.product()
		if r.pass("->") {
			return r.branch(api.NdArrow, from, nil, b, r.ty())
		}
		return b
	})
}

// product reads types with stars between them; one alone is itself.
func (r *reader) product() api.Branch {
	from := r.next
	kids := r.row("*", (*reader).applied)
	if len(kids) == 1 {
		return kids[0]
	}
	return r.branch(api.NdProd, from, nil, kids...)
}

// applied reads a type and the paths behind it, each one's type being what stands ahead of it.
func (r *reader) applied() api.Branch {
	from := r.next
	b := r.atomicTy()
	for r.kind() == api.TkCap || r.kind() == api.TkWord {
		b = r.branch(api.NdTyUse, from, r.typePath(), b)
	}
	return b
}

// atomicTy reads a type variable, a path alone, or what begins with a (.
func (r *reader) atomicTy() api.Branch {
	from := r.next
	switch {
	case r.kind() == api.TkVar:
		r.next++
		return r.branch(api.NdTyVar, from, nil)
	case r.pass("("):
		kids := r.row(",", (*reader).ty)
		r.need(")")
		if len(kids) == 1 {
			return kids[0]
		}
		return r.branch(api.NdTyUse, from, r.typePath(), kids...)
	}
	return r.branch(api.NdTyUse, from, r.typePath())
}

// typePath takes the path of a type: caps, each with a dot behind it, and a word.
func (r *reader) typePath() []int {
	path := r.path(api.TkCap, api.TkWord)
	r.expect(r.words[r.next-1].Kind == api.TkWord)
	return path
}
