package resolve_test

import (
	"math/rand/v2"
	"slices"
	"strconv"
	"strings"

	"oriel/api"
)

// maker makes programs that mean something, for the most part: it knows which names may stand where, and now and then takes one that may not.
type maker struct {
	rng    *rand.Rand
	tokens []string
	slips  int // of a hundred names as many are any ones
}

// thing is what a name was declared to be; has is what it has, and param what its parameter has.
type thing struct {
	space      int
	name       string
	has, param scope
}

// scope is what was declared, the youngest last.
type scope []thing

// way is a path to a thing.
type way struct {
	names []string
	thing thing
}

// Few names, the same ones in several spaces, so that they meet.
func pool(space int) []string {
	switch space {
	case api.SpValue:
		return []string{"x", "y", "z", "+", "-"}
	case api.SpType:
		return []string{"x", "y", "z"}
	}
	return []string{"A", "B", "C", "D"}
}

// isSign says whether a name is one of the signs of pool.
func isSign(s string) bool { return s == "+" || s == "-" }

func (m *maker) put(tokens ...string) { m.tokens = append(m.tokens, tokens...) }

// chance is true of n in a hundred times.
func (m *maker) chance(n int) bool { return m.rng.IntN(100) < n }

func (m *maker) any(l ...string) string { return l[m.rng.IntN(len(l))] }

// youngest is the things that are not hidden.
func (s scope) youngest() scope {
	met := map[name]int{}
	var l scope
	for _, x := range slices.Backward(s) {
		k := name{x.space, x.name}
		if met[k]++; met[k] == 1 {
			l = append(l, x)
		}
	}
	return l
}

// with is s with these things behind it.
func (s scope) with(l ...thing) scope { return append(slices.Clip(s), l...) }

// ways is all paths to things of a space, through up to deep structures.
func (s scope) ways(space, deep int) []way {
	var l []way
	for _, x := range s.youngest() {
		if x.space == space {
			l = append(l, way{[]string{x.name}, x})
		}
		if x.space == api.SpStr && deep > 0 {
			for _, w := range x.has.ways(space, deep-1) {
				l = append(l, way{append([]string{x.name}, w.names...), w.thing})
			}
		}
	}
	return l
}

// find is the thing that has the name; false, if there is none.
func (s scope) find(space int, text string) (thing, bool) {
	for _, x := range slices.Backward(s) {
		if x.space == space && x.name == text {
			return x, true
		}
	}
	return thing{}, false
}

// satisfies says whether s has all that is wanted.
func (s scope) satisfies(want scope) bool {
	for _, x := range want {
		if y, ok := s.find(x.space, x.name); !ok || !y.has.satisfies(x.has) && x.space == api.SpStr {
			return false
		}
	}
	return true
}

// path puts a path to a thing of the space of which this is so, if there is one.
func (m *maker) path(s scope, space int, may func(way) bool) (thing, bool) {
	if m.chance(m.slips) {
		w := m.any(pool(space)...)
		for m.chance(20) && !isSign(w) && space != api.SpFun && space != api.SpSig {
			m.put(m.any(pool(api.SpStr)...), ".")
		}
		if isSign(w) && m.tokens[len(m.tokens)-1] == "." {
			w = "x"
		}
		m.value(w)
		return thing{}, true
	}
	l := slices.DeleteFunc(s.ways(space, 3), func(w way) bool { return !may(w) })
	if len(l) == 0 {
		return thing{}, false
	}
	w := l[m.rng.IntN(len(l))]
	for i, n := range w.names {
		if i > 0 {
			m.put(".")
		}
		m.value(n)
	}
	return w.thing, true
}

// value puts a name, a sign behind op.
func (m *maker) value(text string) {
	if isSign(text) {
		m.put("op")
	}
	m.put(text)
}

func anyWay(way) bool { return true }

// plain is of ways that no sign ends behind a dot: no text has these.
func plain(w way) bool { return len(w.names) == 1 || !isSign(w.thing.name) }

// fresh is a name of the space; for the most part one that s has not.
func (m *maker) fresh(s scope, space int) string {
	l := pool(space)
	m.rng.Shuffle(len(l), func(i, j int) { l[i], l[j] = l[j], l[i] })
	for _, text := range l {
		if _, ok := s.find(space, text); !ok || m.chance(m.slips) {
			return text
		}
	}
	return strings.Trim(l[0], "+-") + pool(space)[0] + strconv.Itoa(m.rng.IntN(100000)+1)
}

// where declarations stand.
const (
	inLet = iota
	inStruct
	inFile
)

// decs puts declarations, and is what they declare.
func (m *maker) decs(s scope, where, n, deep int) scope {
	var made scope
	for range n {
		made = made.with(m.dec(s.with(made...), where, deep)...)
		if m.chance(10) {
			m.put(";")
		}
	}
	return made
}

// dec puts a declaration, and is what it declares.
func (m *maker) dec(s scope, where, deep int) scope {
	most := []int{7, 12, 17}[where]
	switch m.rng.IntN(most) {
	case 0, 1:
		m.put("val")
		made := m.pat(s, nil, 2)
		m.put("=")
		m.exp(s, deep)
		return made
	case 2:
		return m.fun(s, deep)
	case 3:
		m.put("type")
		text := m.any(pool(api.SpType)...)
		m.put(text, "=")
		m.ty(s, 2)
		return scope{{space: api.SpType, name: text}}
	case 4:
		return m.data(s, nil)
	case 5:
		return m.open(s)
	case 6, 7:
		if deep == 0 {
			return m.open(s)
		}
		m.put("local")
		first := m.decs(s, where, m.rng.IntN(3), deep-1)
		m.put("in")
		second := m.decs(s.with(first...), where, m.rng.IntN(3), deep-1)
		m.put("end")
		return second
	case 8, 9, 10, 11:
		text := m.any(pool(api.SpStr)...)
		m.put("structure", text)
		return scope{{space: api.SpStr, name: text, has: m.body(s, deep)}}
	case 12, 13, 14:
		text := m.any(pool(api.SpSig)...)
		m.put("signature", text, "=")
		return scope{{space: api.SpSig, name: text, has: m.sig(s, deep)}}
	}
	text, param := m.any(pool(api.SpFun)...), m.any(pool(api.SpStr)...)
	m.put("functor", text, "(", param, ":")
	has := m.sig(s, deep)
	m.put(")")
	within := s.with(thing{space: api.SpStr, name: param, has: has})
	return scope{{space: api.SpFun, name: text, param: has, has: m.body(within, deep)}}
}

// body puts what a structure is declared to be, and is what it has.
func (m *maker) body(s scope, deep int) scope {
	if m.chance(60) {
		m.put("=")
		return m.str(s, nil, deep)
	}
	m.put(m.any(":", ":>"))
	want := m.sig(s, deep)
	m.put("=")
	m.str(s, want, deep)
	return want
}

// open puts an open of a structure, if there is one.
func (m *maker) open(s scope) scope {
	if len(s.ways(api.SpStr, 3)) == 0 {
		return nil
	}
	m.put("open")
	x, _ := m.path(s, api.SpStr, anyWay)
	return x.has
}

// fun puts a fun of up to three functions.
func (m *maker) fun(s scope, deep int) scope {
	var made scope
	for range 1 + m.rng.IntN(3) {
		made = made.with(thing{space: api.SpValue, name: m.fresh(made, api.SpValue)})
	}
	for i, f := range made {
		m.put([]string{"fun", "and"}[min(i, 1)])
		m.value(f.name)
		var names scope
		for range 1 + m.rng.IntN(2) {
			names = names.with(m.atomicPat(s, names, 1)...)
		}
		m.put("=")
		m.exp(s.with(made...).with(names...), deep)
	}
	return made
}

// data puts datatypes that declare nothing that is there already.
func (m *maker) data(s, there scope) scope {
	var types, cons scope
	for range 1 + m.rng.IntN(2) {
		types = types.with(thing{space: api.SpType, name: m.fresh(there.with(types...), api.SpType)})
	}
	for i, t := range types {
		m.put([]string{"datatype", "and"}[min(i, 1)], t.name)
		for j := range 1 + m.rng.IntN(2) {
			con := m.fresh(there.with(cons...), api.SpCon)
			m.put([]string{"=", "|"}[min(j, 1)], con)
			cons = cons.with(thing{space: api.SpCon, name: con})
			if m.chance(50) {
				m.put("of")
				m.ty(s.with(types...), 1)
			}
		}
	}
	return types.with(cons...)
}

// pat puts a pattern that declares nothing that is there already, and is what it declares.
func (m *maker) pat(s, there scope, deep int) scope {
	switch {
	case m.chance(10) && deep > 0:
		text := m.fresh(there, api.SpValue)
		if isSign(text) {
			text = "w" + strconv.Itoa(m.rng.IntN(100000))
		}
		m.put(text, "as")
		made := scope{{space: api.SpValue, name: text}}
		return made.with(m.pat(s, there.with(made...), deep-1)...)
	case m.chance(20) && deep > 0:
		if _, ok := m.path(s, api.SpCon, anyWay); ok {
			return m.atomicPat(s, there, deep-1)
		}
	}
	return m.atomicPat(s, there, deep)
}

// atomicPat likewise puts one that may be a parameter.
func (m *maker) atomicPat(s, there scope, deep int) scope {
	switch m.rng.IntN(8) {
	case 0:
		m.put(m.any("_", "1", "( )"))
		return nil
	case 1:
		if _, ok := m.path(s, api.SpCon, anyWay); ok {
			return nil
		}
	case 2, 3:
		if deep > 0 {
			m.put("(")
			made := m.pat(s, there, deep-1)
			m.put(",")
			made = made.with(m.pat(s, there.with(made...), deep-1)...)
			m.put(")")
			return made
		}
	}
	text := m.fresh(there, api.SpValue)
	m.value(text)
	return scope{{space: api.SpValue, name: text}}
}

// ty puts a type.
func (m *maker) ty(s scope, deep int) {
	if deep > 0 && m.chance(40) {
		m.put("(")
		m.ty(s, deep-1)
		two := len(s.ways(api.SpType, 3)) > 0 && m.chance(30)
		if two {
			m.put(",")
		} else {
			m.put(m.any("->", "*"))
		}
		m.ty(s, deep-1)
		m.put(")")
		if two {
			m.path(s, api.SpType, anyWay)
		}
		return
	}
	if m.chance(20) {
		m.put("'a")
	}
	if _, ok := m.path(s, api.SpType, anyWay); !ok && m.tokens[len(m.tokens)-1] != "'a" {
		m.put("'a")
	}
}

// exp puts an expression.
func (m *maker) exp(s scope, deep int) {
	if deep == 0 || m.chance(35) {
		if _, ok := m.path(s, []int{api.SpValue, api.SpCon}[m.rng.IntN(2)], plain); !ok {
			m.put("1")
		}
		return
	}
	m.put("(")
	defer m.put(")")
	switch m.rng.IntN(7) {
	case 0:
		m.put("if")
		m.exp(s, deep-1)
		m.put("then")
		m.exp(s, deep-1)
		m.put("else")
		m.exp(s, deep-1)
	case 1:
		m.put("case")
		m.exp(s, deep-1)
		for i := range 1 + m.rng.IntN(2) {
			m.put([]string{"of", "|"}[min(i, 1)])
			m.clause(s, deep-1)
		}
	case 2:
		m.put("fn")
		m.clause(s, deep-1)
	case 3, 4:
		m.put("let")
		made := m.decs(s, inLet, m.rng.IntN(4), deep-1)
		m.put("in")
		m.exp(s.with(made...), deep-1)
		m.put("end")
	case 5:
		m.exp(s, deep-1)
		for _, w := range s.ways(api.SpValue, 0) {
			if isSign(w.thing.name) || m.chance(m.slips) {
				m.put([]string{w.thing.name, "+"}[min(1, len(strings.Trim(w.thing.name, "+-")))])
				m.exp(s, deep-1)
			}
		}
	default:
		m.exp(s, deep-1)
		m.put(m.any(",", ""))
		m.exp(s, deep-1)
	}
}

// clause puts a pattern, and an expression that has its names.
func (m *maker) clause(s scope, deep int) {
	made := m.pat(s, nil, 1)
	m.put("=>")
	m.exp(s.with(made...), deep)
}

// sig puts a signature, and is what it has.
func (m *maker) sig(s scope, deep int) scope {
	has, named := scope(nil), false
	if m.chance(40) {
		var x thing
		x, named = m.path(s, api.SpSig, anyWay) // no structure has signatures: a path to one is its name
		has = x.has
	}
	if !named {
		has = m.specs(s, deep)
	}
	for m.chance(25) && len(has.ways(api.SpType, 2)) > 0 {
		m.put("where", "type")
		m.path(has, api.SpType, anyWay)
		m.put("=")
		m.ty(s, 1)
	}
	return has
}

// specs puts a sig .. end, and is what it has.
func (m *maker) specs(s scope, deep int) scope {
	var made scope
	m.put("sig")
	for range m.rng.IntN(4) {
		within := s.with(made...)
		switch m.rng.IntN(6) {
		case 0, 1:
			text := m.fresh(made, api.SpValue)
			m.put("val")
			m.value(text)
			m.put(":")
			m.ty(within, 1)
			made = made.with(thing{space: api.SpValue, name: text})
		case 2:
			text := m.fresh(made, api.SpType)
			m.put("type", text)
			if m.chance(40) {
				m.put("=")
				m.ty(within, 1)
			}
			made = made.with(thing{space: api.SpType, name: text})
		case 3:
			made = made.with(m.data(within, made)...)
		case 4:
			if deep > 0 {
				text := m.fresh(made, api.SpStr)
				m.put("structure", text, ":")
				made = made.with(thing{space: api.SpStr, name: text, has: m.sig(within, deep-1)})
			}
		case 5:
			made = made.with(m.include(within, made)...)
		}
	}
	m.put("end")
	return made
}

// include puts an include of a signature that has nothing that is there already, if there is one.
func (m *maker) include(s, there scope) scope {
	may := func(w way) bool {
		return !slices.ContainsFunc(w.thing.has, func(x thing) bool {
			_, ok := there.find(x.space, x.name)
			return ok
		})
	}
	if !slices.ContainsFunc(s.ways(api.SpSig, 0), may) {
		return nil
	}
	m.put("include")
	x, _ := m.path(s, api.SpSig, may)
	return x.has
}

// str puts a structure that has what is wanted, and is what it has.
func (m *maker) str(s, want scope, deep int) scope {
	has := m.bareStr(s, want, deep)
	for m.chance(10) {
		fits := func(w way) bool { return has.satisfies(w.thing.has) && w.thing.has.satisfies(want) }
		switch {
		case slices.ContainsFunc(s.ways(api.SpSig, 0), fits):
			m.put(m.any(":", ":>"))
			x, _ := m.path(s, api.SpSig, fits)
			has = x.has
		case !want.hasCons():
			m.put(m.any(":", ":>"), "sig")
			m.all(want)
			m.put("end")
			has = want
		}
	}
	return has
}

// hasCons says whether constructors are in s, which can't be asked for without their types.
func (s scope) hasCons() bool {
	return slices.ContainsFunc(s, func(x thing) bool { return x.space == api.SpCon || x.space == api.SpStr && x.has.hasCons() })
}

// all puts a specification of each thing that is wanted.
func (m *maker) all(want scope) {
	for _, x := range want {
		switch x.space {
		case api.SpValue:
			m.put("val")
			m.value(x.name)
			m.put(":", "'a")
		case api.SpType:
			m.put("type", x.name)
		case api.SpStr:
			m.put("structure", x.name, ":", "sig")
			m.all(x.has)
			m.put("end")
		}
	}
}

// bareStr puts one without signatures behind it.
func (m *maker) bareStr(s, want scope, deep int) scope {
	fits := func(w way) bool { return w.thing.has.satisfies(want) }
	if m.chance(30) {
		if x, ok := m.path(s, api.SpStr, fits); ok {
			return x.has
		}
	}
	l := slices.DeleteFunc(s.ways(api.SpFun, 0), func(w way) bool { return !fits(w) })
	if len(l) > 0 && deep > 0 && m.chance(50) {
		x := l[m.rng.IntN(len(l))].thing
		m.put(x.name, "(")
		m.str(s, x.param, deep-1)
		m.put(")")
		return x.has
	}
	m.put("struct")
	var made scope
	if deep > 0 {
		made = m.decs(s, inStruct, m.rng.IntN(3), deep-1)
	}
	for _, i := range m.rng.Perm(len(want)) {
		made = made.with(m.wanted(s.with(made...), want[i], deep)...)
	}
	m.put("end")
	return made
}

// wanted puts a declaration of a thing, or of what has it.
func (m *maker) wanted(s scope, x thing, deep int) scope {
	switch x.space {
	case api.SpValue:
		m.put("val")
		m.value(x.name)
		m.put("=")
		m.exp(s, min(deep, 1))
	case api.SpType:
		m.put("type", x.name, "=")
		m.ty(s, 1)
	case api.SpCon:
		text := "d" + x.name
		m.put("datatype", text, "=", x.name)
		return scope{{space: api.SpType, name: text}, x}
	case api.SpStr:
		m.put("structure", x.name, "=")
		x.has = m.str(s, x.has, max(deep-1, 0))
	}
	return scope{x}
}

// makeProject is the tokens of a project of up to three files.
func makeProject(seed uint64, slips int) [][]string {
	m := &maker{rng: rand.New(rand.NewPCG(seed, 13)), slips: slips}
	var s scope
	var files [][]string
	for range 1 + m.rng.IntN(3) {
		m.tokens = nil
		s = s.with(m.decs(s, inFile, 1+m.rng.IntN(8), 3)...)
		files = append(files, m.tokens)
	}
	return files
}

// lay is files of these tokens, with what gap tells ahead of each of them, and at the end.
func lay(files [][]string, gap func() string) []api.File {
	var l []api.File
	for i, tokens := range files {
		var s strings.Builder
		for _, token := range tokens {
			s.WriteString(gap())
			s.WriteString(token)
		}
		s.WriteString(gap())
		l = append(l, api.File{Name: strconv.Itoa(i), Text: s.String()})
	}
	return l
}

func blank() string { return " " }
