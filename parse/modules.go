package parse

import "oriel/api"

// str reads a structure.
func (r *reader) str() api.Branch {
	return r.part(func(from int) api.Branch {
		b := r.bareStr()
		for mark := r.colon(); mark != 0; mark = r.colon() {
			sig := r.sig()
			b = marked(mark, r.branch(api.NdSeal, from, nil, b, sig))
		}
		return b
	})
}

// bareStr reads a structure, up to the signatures that it is held against.
func (r *reader) bareStr() api.Branch {
	from := r.next
	switch {
	case r.pass("struct"):
		decs := r.decs(inStruct)
		r.need("end")
		return r.branch(api.NdStruct, from, nil, decs...)
	case r.kind() == api.TkCap && r.text(from+1) == "(":
		r.next += 2
		argument := r.str()
		r.need(")")
		return r.branch(api.NdApply, from, []int{from}, argument)
	}
	return r.branch(api.NdPath, from, r.path(api.TkCap))
}

// sig reads a signature.
func (r *reader) sig() api.Branch {
	return r.part(func(from int) api.Branch {
		b := r.bareSig()
		for r.pass("where") {
			r.need("type")
			path := r.typePath()
			r.need("=")
			b = r.branch(api.NdWhere, from, path, b, r.ty())
		}
		return b
	})
}

// bareSig reads a signature, up to the types that it is told.
func (r *reader) bareSig() api.Branch {
	from := r.next
	if !r.pass("sig") {
		return r.branch(api.NdSigUse, from, []int{r.take(api.TkCap)})
	}
	var specs []api.Branch
	for !r.pass("end") {
		if !r.pass(";") {
			specs = append(specs, r.spec())
		}
	}
	return r.branch(api.NdBody, from, nil, specs...)
}

// spec reads a specification.
func (r *reader) spec() api.Branch {
	from := r.next
	switch {
	case r.pass("val"):
		name := r.value()
		r.need(":")
		return r.branch(api.NdValSpec, from, []int{name}, r.ty())
	case r.pass("type"):
		name := r.typeName()
		if r.pass("=") {
			return r.branch(api.NdTySpec, from, name, r.ty())
		}
		return r.branch(api.NdTySpec, from, name)
	case r.pass("datatype"):
		return r.datatypes(from)
	case r.pass("structure"):
		name := r.take(api.TkCap)
		r.need(":")
		return r.branch(api.NdStrSpec, from, []int{name}, r.sig())
	}
	r.need("include")
	return r.branch(api.NdInclude, from, nil, r.sig())
}
