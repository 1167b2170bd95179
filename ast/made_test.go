package ast_test

import (
	"math/rand/v2"
	"strings"

	"oriel/api"
)

// put is a name as it was put: the token's number, and what it is to be.
type put struct {
	token, space int
	decl         bool
}

// maker makes files, token by token, and knows of each name that it puts what it is: so that nothing is read.
type maker struct {
	rng    *rand.Rand
	tokens []string
	names  []put
	left   int // how many more parts are to be made that have others in them, about
}

func newMaker(seed uint64, size int) *maker {
	m := &maker{rng: rand.New(rand.NewPCG(seed, 8)), left: size}
	for range 4 {
		m.decs(2)
	}
	return m
}

// pick is a number below n; 0, which is to be the smallest that can be made, if enough has been made.
func (m *maker) pick(n int) int {
	m.left--
	if m.left < 0 {
		return 0
	}
	return m.rng.IntN(n)
}

// say puts tokens that are no names.
func (m *maker) say(tokens ...string) { m.tokens = append(m.tokens, tokens...) }

// name puts one of these tokens, a name.
func (m *maker) name(space int, decl bool, tokens ...string) {
	m.names = append(m.names, put{len(m.tokens), space, decl})
	m.say(tokens[m.rng.IntN(len(tokens))])
}

func (m *maker) word(space int, decl bool) { m.name(space, decl, "x", "y", "f'", "a_1", "valx", "t") }
func (m *maker) cap(space int, decl bool)  { m.name(space, decl, "A", "M", "N'", "S_2", "F", "Val") }

// value puts a word, or a sign behind op.
func (m *maker) value(decl bool) {
	if m.pick(4) < 3 {
		m.word(api.SpValue, decl)
		return
	}
	m.say("op")
	m.sign(decl)
}

func (m *maker) sign(decl bool) { m.name(api.SpValue, decl, "+", "*", "::", "<=", "==", "**") }

// ahead puts structures' names, each with a dot behind it: what stands ahead in a path.
func (m *maker) ahead() {
	for range m.pick(3) {
		m.cap(api.SpStr, false)
		m.say(".")
	}
}

func (m *maker) typePath() {
	m.ahead()
	m.word(api.SpType, false)
}

// row puts parts, one at least, with a token between them.
func (m *maker) row(between string, part func()) {
	part()
	for range m.pick(3) {
		m.say(between)
		part()
	}
}

// tuple puts members in ( ): none, one or more.
func (m *maker) tuple(member func()) {
	m.say("(")
	if m.pick(4) > 0 {
		m.row(",", member)
	}
	m.say(")")
}

// decs puts declarations, of a let (where 0), a struct (1) or a file (2).
func (m *maker) decs(where int) {
	for range m.pick(4) {
		m.dec(where)
		for range m.pick(2) {
			m.say(";")
		}
	}
}

func (m *maker) dec(where int) {
	switch m.pick([]int{6, 8, 10}[where]) {
	case 1:
		m.say("fun")
		m.row("and", func() {
			m.value(true)
			for range 1 + m.pick(2) {
				m.atomicPat()
			}
			m.say("=")
			m.exp()
		})
	case 2:
		m.say("type")
		m.typeName()
		m.say("=")
		m.ty()
	case 3:
		m.data()
	case 4:
		m.say("open")
		m.ahead()
		m.cap(api.SpStr, false)
	case 5:
		m.say("local")
		m.decs(where)
		m.say("in")
		m.decs(where)
		m.say("end")
	case 6, 7:
		m.say("structure")
		m.cap(api.SpStr, true)
		m.body()
	case 8:
		m.say("signature")
		m.cap(api.SpSig, true)
		m.say("=")
		m.sig()
	case 9:
		m.say("functor")
		m.cap(api.SpFun, true)
		m.say("(")
		m.cap(api.SpStr, true)
		m.say(":")
		m.sig()
		m.say(")")
		m.body()
	default:
		m.say("val")
		m.pat()
		m.say("=")
		m.exp()
	}
}

// body puts the signature, if there is one, and the structure of a structure or a functor.
func (m *maker) body() {
	if mark := m.pick(3); mark > 0 {
		m.say([]string{":", ":>"}[mark-1])
		m.sig()
	}
	m.say("=")
	m.str()
}

func (m *maker) typeName() {
	switch m.pick(3) {
	case 1:
		m.say("'a")
	case 2:
		m.say("(", "'a", ",", "'b", ")")
	}
	m.word(api.SpType, true)
}

func (m *maker) data() {
	m.say("datatype")
	m.row("and", func() {
		m.typeName()
		m.say("=")
		m.row("|", func() {
			m.cap(api.SpCon, true)
			if m.pick(2) > 0 {
				m.say("of")
				m.ty()
			}
		})
	})
}

func (m *maker) str() {
	switch m.pick(3) {
	case 1:
		m.say("struct")
		m.decs(1)
		m.say("end")
	case 2:
		m.cap(api.SpFun, false)
		m.say("(")
		m.str()
		m.say(")")
	default:
		m.ahead()
		m.cap(api.SpStr, false)
	}
	for range m.pick(2) {
		m.say(":>")
		m.sig()
	}
}

func (m *maker) sig() {
	if m.pick(3) == 0 {
		m.cap(api.SpSig, false)
	} else {
		m.say("sig")
		for range m.pick(4) {
			m.spec()
			for range m.pick(2) {
				m.say(";")
			}
		}
		m.say("end")
	}
	for range m.pick(2) {
		m.say("where", "type")
		m.typePath()
		m.say("=")
		m.ty()
	}
}

func (m *maker) spec() {
	switch m.pick(5) {
	case 1:
		m.say("type")
		m.typeName()
		if m.pick(2) > 0 {
			m.say("=")
			m.ty()
		}
	case 2:
		m.data()
	case 3:
		m.say("structure")
		m.cap(api.SpStr, true)
		m.say(":")
		m.sig()
	case 4:
		m.say("include")
		m.sig()
	default:
		m.say("val")
		m.value(true)
		m.say(":")
		m.ty()
	}
}

func (m *maker) ty() {
	m.row("*", func() {
		switch m.pick(4) {
		case 1:
			m.say("'a")
		case 2:
			m.say("(")
			m.ty()
			m.say(")")
		case 3:
			m.say("(")
			m.ty()
			m.say(",")
			m.ty()
			m.say(")")
			m.typePath()
		default:
			m.typePath()
		}
		for range m.pick(2) {
			m.typePath()
		}
	})
	if m.pick(4) > 2 {
		m.say("->")
		m.ty()
	}
}

func (m *maker) exp() {
	switch m.pick(8) {
	case 1:
		m.say("if")
		m.exp()
		m.say("then")
		m.exp()
		m.say("else")
		m.exp()
	case 2:
		m.say("case")
		m.exp()
		m.say("of")
		m.row("|", func() {
			m.pat()
			m.say("=>")
			m.exp()
		})
	case 3:
		m.say("fn")
		m.pat()
		m.say("=>")
		m.exp()
	default:
		m.call()
		for range m.pick(3) {
			m.sign(false)
			m.call()
		}
	}
}

// call puts atoms beside one another.
func (m *maker) call() {
	m.atom()
	for range m.pick(3) {
		m.atom()
	}
}

func (m *maker) atom() {
	switch m.pick(7) {
	case 1:
		m.say("17")
	case 2:
		m.say(`"x (* "`)
	case 3:
		m.ahead()
		m.cap(api.SpCon, false)
	case 4:
		m.tuple(m.exp)
	case 5:
		m.say("let")
		m.decs(0)
		m.say("in")
		m.exp()
		m.say("end")
	case 6:
		m.say("op")
		m.sign(false)
	default:
		m.ahead()
		m.word(api.SpValue, false)
	}
}

func (m *maker) pat() {
	switch m.pick(4) {
	case 1:
		m.word(api.SpValue, true)
		m.say("as")
		m.pat()
	case 2:
		m.ahead()
		m.cap(api.SpCon, false)
		m.atomicPat()
	default:
		m.atomicPat()
	}
}

func (m *maker) atomicPat() {
	switch m.pick(6) {
	case 1:
		m.say("_")
	case 2:
		m.say("12")
	case 3:
		m.say(`""`)
	case 4:
		m.ahead()
		m.cap(api.SpCon, false)
	case 5:
		m.tuple(m.pat)
	default:
		m.value(true)
	}
}

// laid is the text of all tokens, with what is told ahead of each one and behind the last one, and where each one begins.
func (m *maker) laid(ahead func() string) (string, []int) {
	var s strings.Builder
	var at []int
	for _, token := range m.tokens {
		s.WriteString(ahead())
		at = append(at, s.Len())
		s.WriteString(token)
	}
	s.WriteString(ahead())
	return s.String(), at
}

// occs is the occurrences of a text in which the tokens begin there.
func (m *maker) occs(file int, at []int) []api.Occ {
	var l []api.Occ
	for _, p := range m.names {
		begin := at[p.token]
		l = append(l, api.Occ{File: file, At: begin, End: begin + len(m.tokens[p.token]), Space: p.space, Decl: p.decl})
	}
	return l
}
