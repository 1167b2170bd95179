package parse_test

import (
	"math/rand/v2"

	"oriel/api"
)

// maker makes texts, token by token, and with them the branches that they are to be read as: so that nothing is read.
type maker struct {
	rng    *rand.Rand
	tokens []string
	left   int // how many more parts are to be made that have others in them, about
}

func newMaker(seed uint64, size int) *maker {
	return &maker{rng: rand.New(rand.NewPCG(seed, 7)), left: size}
}

// put puts tokens, and is the number of the last one.
func (m *maker) put(tokens ...string) int {
	m.tokens = append(m.tokens, tokens...)
	return len(m.tokens) - 1
}

// one puts one of these tokens.
func (m *maker) one(tokens ...string) int { return m.put(tokens[m.rng.IntN(len(tokens))]) }

func (m *maker) word() int { return m.one("x", "y", "f", "a1", "z'", "t_") }
func (m *maker) cap() int  { return m.one("A", "B", "M", "N'", "S_2", "F") }
func (m *maker) sign() int { return m.one("+", "*", "::", "<", "==", "/\\", "**") }

// pick is a number below n; 0, which is to be the smallest that can be made, if enough has been made.
func (m *maker) pick(n int) int {
	m.left--
	if m.left < 0 {
		return 0
	}
	return m.rng.IntN(n)
}

// some is how many of something there are: from least on.
func (m *maker) some(least int) int { return least + m.pick(3) }

// start is the number of the token that comes next.
func (m *maker) start() int { return len(m.tokens) }

// made is the branch of the tokens from this one on, up to those that were put last.
func (m *maker) made(kind, from int, names []int, kids ...api.Branch) api.Branch {
	return api.Branch{Kind: kind, From: from, To: len(m.tokens), Names: names, Kids: kids}
}

// path puts caps and dots, and last what is told.
func (m *maker) path(last func() int) []int {
	var names []int
	for range m.pick(3) {
		names = append(names, m.cap())
		m.put(".")
	}
	return append(names, last())
}

// value puts a word, or a sign behind op, and is the name's number.
func (m *maker) value() int {
	if m.pick(4) == 3 {
		m.put("op")
		return m.sign()
	}
	return m.word()
}

// within puts ( and ), and what is told between them: that is what they are.
func (m *maker) within(inner func() api.Branch) api.Branch {
	m.put("(")
	b := inner()
	m.put(")")
	return b
}

// tuple puts members in ( ), none, or two and more.
func (m *maker) tuple(from int, member func() api.Branch) api.Branch {
	m.put("(")
	var kids []api.Branch
	for i := range []int{0, 2, 3}[m.pick(3)] {
		if i > 0 {
			m.put(",")
		}
		kids = append(kids, member())
	}
	m.put(")")
	return m.made(api.NdTuple, from, nil, kids...)
}

// Where declarations stand.
const (
	ofLet = iota
	ofStruct
	ofFile
)

func (m *maker) decs(where int) []api.Branch {
	var l []api.Branch
	for range m.pick(4) {
		for range m.pick(3) {
			m.put(";")
		}
		l = append(l, m.dec(where))
	}
	for range m.pick(3) {
		m.put(";")
	}
	return l
}

func (m *maker) file() api.Branch {
	l := m.decs(ofFile)
	return m.made(api.NdFile, 0, nil, l...)
}

func (m *maker) list(where int) api.Branch {
	from := m.start()
	l := m.decs(where)
	return m.made(api.NdDecs, from, nil, l...)
}

func (m *maker) dec(where int) api.Branch {
	from := m.start()
	switch m.pick([]int{6, 7, 9}[where]) {
	case 1:
		return m.fun(from)
	case 2:
		m.put("type")
		name := m.typeName()
		m.put("=")
		ty := m.ty()
		return m.made(api.NdType, from, name, ty)
	case 3:
		return m.data(from)
	case 4:
		m.put("open")
		path := m.path(m.cap)
		return m.made(api.NdOpen, from, path)
	case 5:
		m.put("local")
		a := m.list(where)
		m.put("in")
		b := m.list(where)
		m.put("end")
		return m.made(api.NdLocal, from, nil, a, b)
	case 6:
		m.put("structure")
		return m.body(api.NdStr, from, []int{m.cap()}, nil)
	case 7:
		m.put("signature")
		name := m.cap()
		m.put("=")
		sig := m.sig()
		return m.made(api.NdSig, from, []int{name}, sig)
	case 8:
		m.put("functor")
		name := m.cap()
		m.put("(")
		param := m.cap()
		m.put(":")
		sig := m.sig()
		m.put(")")
		return m.body(api.NdFunctor, from, []int{name, param}, []api.Branch{sig})
	}
	m.put("val")
	pat := m.pat(0)
	m.put("=")
	exp := m.exp(0)
	return m.made(api.NdVal, from, nil, pat, exp)
}

// body puts the signature, if there is one, and the structure of a structure or a functor.
func (m *maker) body(kind, from int, names []int, kids []api.Branch) api.Branch {
	mark := m.pick(3)
	if mark > 0 {
		m.put([]string{":", ":>"}[mark-1])
		kids = append(kids, m.sig())
	}
	m.put("=")
	kids = append(kids, m.str(0))
	b := m.made(kind, from, names, kids...)
	b.Mark = mark
	return b
}

func (m *maker) fun(from int) api.Branch {
	m.put("fun")
	var l []api.Branch
	for i := range m.some(1) {
		if i > 0 {
			m.put("and")
		}
		at := m.start()
		name := m.value()
		var kids []api.Branch
		for range m.some(1) {
			kids = append(kids, m.pat(2))
		}
		m.put("=")
		kids = append(kids, m.exp(0))
		l = append(l, m.made(api.NdFbind, at, []int{name}, kids...))
	}
	return m.made(api.NdFun, from, nil, l...)
}

func (m *maker) typeName() []int {
	switch m.pick(4) {
	case 1:
		m.put("'a")
	case 2:
		m.put("(", "'a", ")")
	case 3:
		m.put("(", "'a", ",", "'b'", ",", "'c", ")")
	}
	return []int{m.word()}
}

func (m *maker) data(from int) api.Branch {
	m.put("datatype")
	var l []api.Branch
	for i := range m.some(1) {
		if i > 0 {
			m.put("and")
		}
		at := m.start()
		name := m.typeName()
		m.put("=")
		var cons []api.Branch
		for k := range m.some(1) {
			if k > 0 {
				m.put("|")
			}
			cons = append(cons, m.con())
		}
		l = append(l, m.made(api.NdDbind, at, name, cons...))
	}
	return m.made(api.NdData, from, nil, l...)
}

func (m *maker) con() api.Branch {
	at := m.start()
	name := []int{m.cap()}
	if m.pick(2) == 0 {
		return m.made(api.NdCon, at, name)
	}
	m.put("of")
	ty := m.ty()
	return m.made(api.NdCon, at, name, ty)
}

// str puts a structure; one that is not held against a signature, if level is above 0.
func (m *maker) str(level int) api.Branch {
	from := m.start()
	switch m.pick([]int{6, 4}[min(level, 1)]) {
	case 1, 2:
		m.put("struct")
		l := m.decs(ofStruct)
		m.put("end")
		return m.made(api.NdStruct, from, nil, l...)
	case 3:
		name := m.cap()
		m.put("(")
		str := m.str(0)
		m.put(")")
		return m.made(api.NdApply, from, []int{name}, str)
	case 4, 5:
		b := m.str(1)
		for range m.some(1) {
			mark := 1 + m.rng.IntN(2)
			m.put([]string{":", ":>"}[mark-1])
			sig := m.sig()
			b = m.made(api.NdSeal, from, nil, b, sig)
			b.Mark = mark
		}
		return b
	}
	path := m.path(m.cap)
	return m.made(api.NdPath, from, path)
}

func (m *maker) sig() api.Branch {
	from := m.start()
	var b api.Branch
	if m.pick(2) == 0 {
		name := m.cap()
		b = m.made(api.NdSigUse, from, []int{name})
	} else {
		m.put("sig")
		var l []api.Branch
		for range m.pick(4) {
			for range m.pick(2) {
				m.put(";")
			}
			l = append(l, m.spec())
		}
		for range m.pick(2) {
			m.put(";")
		}
		m.put("end")
		b = m.made(api.NdBody, from, nil, l...)
	}
	for range m.pick(3) {
		m.put("where", "type")
		path := m.path(m.word)
		m.put("=")
		ty := m.ty()
		b = m.made(api.NdWhere, from, path, b, ty)
	}
	return b
}

func (m *maker) spec() api.Branch {
	from := m.start()
	switch m.pick(6) {
	case 1:
		m.put("type")
		name := m.typeName()
		return m.made(api.NdTySpec, from, name)
	case 2:
		m.put("type")
		name := m.typeName()
		m.put("=")
		ty := m.ty()
		return m.made(api.NdTySpec, from, name, ty)
	case 3:
		return m.data(from)
	case 4:
		m.put("structure")
		name := m.cap()
		m.put(":")
		sig := m.sig()
		return m.made(api.NdStrSpec, from, []int{name}, sig)
	case 5:
		m.put("include")
		sig := m.sig()
		return m.made(api.NdInclude, from, nil, sig)
	}
	m.put("val")
	name := m.value()
	m.put(":")
	ty := m.ty()
	return m.made(api.NdValSpec, from, []int{name}, ty)
}

// ty puts a type.
func (m *maker) ty() api.Branch {
	from := m.start()
	b := m.product()
	if m.pick(4) != 3 {
		return b
	}
	m.put("->")
	to := m.ty()
	return m.made(api.NdArrow, from, nil, b, to)
}

func (m *maker) product() api.Branch {
	from := m.start()
	l := []api.Branch{m.applied()}
	for range m.pick(3) {
		m.put("*")
		l = append(l, m.applied())
	}
	if len(l) == 1 {
		return l[0]
	}
	return m.made(api.NdProd, from, nil, l...)
}

func (m *maker) applied() api.Branch {
	from := m.start()
	b := m.atomicTy(from)
	for range m.pick(3) {
		path := m.path(m.word)
		b = m.made(api.NdTyUse, from, path, b)
	}
	return b
}

func (m *maker) atomicTy(from int) api.Branch {
	switch m.pick(5) {
	case 1:
		m.put("'a")
		return m.made(api.NdTyVar, from, nil)
	case 2, 3:
		return m.within(m.ty)
	case 4:
		m.put("(")
		l := []api.Branch{m.ty()}
		for range m.some(1) {
			m.put(",")
			l = append(l, m.ty())
		}
		m.put(")")
		path := m.path(m.word)
		return m.made(api.NdTyUse, from, path, l...)
	}
	path := m.path(m.word)
	return m.made(api.NdTyUse, from, path)
}

// exp puts an expression; of level 1 none that stands between signs in ( ) alone, of level 2 none that is called, or called with, in ( ) alone.
func (m *maker) exp(level int) api.Branch {
	from := m.start()
	kind := m.pick([]int{15, 11, 10}[level])
	switch kind {
	case 0:
		path := m.path(m.word)
		return m.made(api.NdVar, from, path)
	case 1:
		path := m.path(m.cap)
		return m.made(api.NdConUse, from, path)
	case 2:
		m.one("0", "17", "007")
		return m.made(api.NdInt, from, nil)
	case 3:
		m.one(`""`, `"val ("`, `"\"\\\n\t"`)
		return m.made(api.NdText, from, nil)
	case 4:
		m.put("op")
		sign := m.sign()
		return m.made(api.NdVar, from, []int{sign})
	case 5:
		m.put("let")
		decs := m.list(ofLet)
		m.put("in")
		exp := m.exp(0)
		m.put("end")
		return m.made(api.NdLet, from, nil, decs, exp)
	case 6, 7:
		return m.tuple(from, func() api.Branch { return m.exp(0) })
	case 8, 9:
		return m.within(func() api.Branch { return m.exp(0) })
	case 10:
		l := []api.Branch{m.exp(2)}
		for range m.some(1) {
			l = append(l, m.exp(2))
		}
		return m.made(api.NdCall, from, nil, l...)
	}
	return m.wide(from, kind)
}

// wide puts an expression that takes all that follows.
func (m *maker) wide(from, kind int) api.Branch {
	switch kind {
	case 11:
		l := []api.Branch{m.exp(1)}
		var signs []int
		for range m.some(1) {
			signs = append(signs, m.sign())
			l = append(l, m.exp(1))
		}
		return m.made(api.NdInfix, from, signs, l...)
	case 12:
		m.put("if")
		a := m.exp(0)
		m.put("then")
		b := m.exp(0)
		m.put("else")
		c := m.exp(0)
		return m.made(api.NdIf, from, nil, a, b, c)
	case 13:
		m.put("fn")
		return m.clause(api.NdFn, from, true)
	}
	m.put("case")
	l := []api.Branch{m.exp(0)}
	m.put("of")
	n := m.some(1)
	for i := range n {
		if i > 0 {
			m.put("|")
		}
		l = append(l, m.clause(api.NdArm, m.start(), i == n-1))
	}
	return m.made(api.NdCase, from, nil, l...)
}

// clause puts a pattern and its expression; if it is not the last one, an expression to which what follows can't belong.
func (m *maker) clause(kind, from int, last bool) api.Branch {
	pat := m.pat(0)
	m.put("=>")
	level := 1
	if last {
		level = 0
	}
	exp := m.exp(level)
	return m.made(kind, from, nil, pat, exp)
}

// pat puts a pattern; of level 2 one that may be a parameter.
func (m *maker) pat(level int) api.Branch {
	from := m.start()
	switch m.pick([]int{12, 12, 10}[level]) {
	case 1:
		m.put("_")
		return m.made(api.NdAny, from, nil)
	case 2:
		m.put("12")
		return m.made(api.NdInt, from, nil)
	case 3:
		m.put(`"=>"`)
		return m.made(api.NdText, from, nil)
	case 4:
		m.put("op")
		sign := m.sign()
		return m.made(api.NdBind, from, []int{sign})
	case 5:
		path := m.path(m.cap)
		return m.made(api.NdConUse, from, path)
	case 6, 7:
		return m.tuple(from, func() api.Branch { return m.pat(0) })
	case 8, 9:
		return m.within(func() api.Branch { return m.pat(0) })
	case 10:
		name := m.word()
		m.put("as")
		pat := m.pat(0)
		return m.made(api.NdAs, from, []int{name}, pat)
	case 11:
		path := m.path(m.cap)
		pat := m.pat(2)
		return m.made(api.NdConUse, from, path, pat)
	}
	name := m.word()
	return m.made(api.NdBind, from, []int{name})
}
