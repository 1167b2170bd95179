package show_test

import "math/rand/v2"

// maker makes files, each in two texts, token by token: tight is the one that is to be told; loose is the same file with more in it than it needs. Nothing is read, and no node is made.
type maker struct {
	rng          *rand.Rand
	tight, loose []string
	left         int // how many more parts are to be made that have others in them, about
}

func newMaker(seed uint64, size int) *maker {
	m := &maker{rng: rand.New(rand.NewPCG(seed, 9)), left: size}
	for range 3 {
		m.decs(2)
	}
	return m
}

// pick is a number below n; 0, which is to be the smallest that can be made, if enough has been made.
func (m *maker) pick(n int) int {
	m.left--
	if m.left < 0 {
		return 0
	}
	return m.rng.IntN(n)
}

// say puts tokens into both texts.
func (m *maker) say(tokens ...string) {
	m.tight = append(m.tight, tokens...)
	m.more(tokens...)
}

// more puts tokens that the file does not need.
func (m *maker) more(tokens ...string) { m.loose = append(m.loose, tokens...) }

// told puts a token that is told as another one.
func (m *maker) told(as, token string) {
	m.tight = append(m.tight, as)
	m.more(token)
}

// one puts one of these tokens.
func (m *maker) one(tokens ...string) { m.say(tokens[m.rng.IntN(len(tokens))]) }

func (m *maker) word() { m.one("x", "y", "f'", "a_1", "valx", "t") }
func (m *maker) cap()  { m.one("A", "M", "N'", "S_2", "F", "Val") }
func (m *maker) sign() { m.one("+", "*", "::", "<=", "==", "**", "|>") }

// within puts a part in parentheses that it needs.
func (m *maker) within(part func()) {
	m.say("(")
	part()
	m.say(")")
}

// spare puts a part, at times in parentheses that it does not need, and says to it whether it stands in some.
func (m *maker) spare(part func(in bool)) {
	n := m.pick(4) / 2 * (1 + m.rng.IntN(2))
	for range n {
		m.more("(")
	}
	part(n > 0)
	for range n {
		m.more(")")
	}
}

// value puts a word, or a sign behind op.
func (m *maker) value() {
	if m.pick(4) < 3 {
		m.word()
		return
	}
	m.say("op")
	m.sign()
}

// path puts caps, each with a dot behind it, and what is told last.
func (m *maker) path(last func()) {
	for range m.pick(3) {
		m.cap()
		m.say(".")
	}
	last()
}

// row puts so many parts, with a token between each two.
func (m *maker) row(n int, between string, part func(i int)) {
	for i := range n {
		if i > 0 {
			m.say(between)
		}
		part(i)
	}
}

// some is how many of something there are, one at least.
func (m *maker) some() int { return 1 + m.pick(3) }

// decs puts declarations, of a let (where 0), a struct (1) or a file (2).
func (m *maker) decs(where int) {
	for range m.pick(4) {
		for range m.pick(2) {
			m.more(";")
		}
		m.dec(where)
	}
	for range m.pick(2) {
		m.more(";")
	}
}

func (m *maker) dec(where int) {
	switch m.pick([]int{6, 8, 10}[where]) {
	case 1:
		m.say("fun")
		m.row(m.some(), "and", func(int) {
			m.value()
			for range m.some() {
				m.apat()
			}
			m.say("=")
			m.exp(free)
		})
	case 2:
		m.say("type")
		m.typeName()
		m.say("=")
		m.ty()
	case 3:
		m.data()
	case 4:
		m.say("open")
		m.path(m.cap)
	case 5:
		m.say("local")
		m.decs(where)
		m.say("in")
		m.decs(where)
		m.say("end")
	case 6, 7:
		m.say("structure")
		m.cap()
		m.body()
	case 8:
		m.say("signature")
		m.cap()
		m.say("=")
		m.sig()
	case 9:
		m.say("functor")
		m.cap()
		m.say("(")
		m.cap()
		m.say(":")
		m.sig()
		m.say(")")
		m.body()
	default:
		m.say("val")
		m.pat()
		m.say("=")
		m.exp(free)
	}
}

// body puts the signature, if there is one, and the structure of a structure or a functor.
func (m *maker) body() {
	if m.pick(2) > 0 {
		m.one(":", ":>")
		m.sig()
	}
	m.say("=")
	m.str()
}

// typeName puts a type's name, with variables ahead of it that are not told.
func (m *maker) typeName() {
	switch m.pick(3) {
	case 1:
		m.more("'a")
	case 2:
		m.more("(", "'a", ",", "'b", ")")
	}
	m.word()
}

func (m *maker) data() {
	m.say("datatype")
	m.row(m.some(), "and", func(int) {
		m.typeName()
		m.say("=")
		m.row(m.some(), "|", func(int) {
			m.cap()
			if m.pick(2) > 0 {
				m.say("of")
				m.ty()
			}
		})
	})
}

func (m *maker) str() {
	switch m.pick(3) {
	case 1:
		m.say("struct")
		m.decs(1)
		m.say("end")
	case 2:
		m.cap()
		m.within(m.str)
	default:
		m.path(m.cap)
	}
	for range m.pick(3) {
		m.one(":", ":>")
		m.sig()
	}
}

func (m *maker) sig() {
	if m.pick(3) == 0 {
		m.cap()
	} else {
		m.say("sig")
		for range m.pick(4) {
			m.spec()
			for range m.pick(2) {
				m.more(";")
			}
		}
		m.say("end")
	}
	for range m.pick(3) {
		m.say("where", "type")
		m.path(m.word)
		m.say("=")
		m.ty()
	}
}

func (m *maker) spec() {
	switch m.pick(5) {
	case 1:
		m.say("type")
		m.typeName()
		if m.pick(2) > 0 {
			m.say("=")
			m.ty()
		}
	case 2:
		m.data()
	case 3:
		m.say("structure")
		m.cap()
		m.say(":")
		m.sig()
	case 4:
		m.say("include")
		m.sig()
	default:
		m.say("val")
		m.value()
		m.say(":")
		m.ty()
	}
}

// ty puts a type, as one may stand where any may.
func (m *maker) ty() {
	m.spare(func(bool) {
		if m.pick(3) > 1 {
			m.arrow()
			return
		}
		m.product(1 + m.pick(3))
	})
}

func (m *maker) arrow() {
	if m.pick(4) == 1 {
		m.within(m.arrow)
	} else {
		m.product(1 + m.pick(2))
	}
	m.say("->")
	m.ty()
}

// product puts so many types with stars between them.
func (m *maker) product(n int) {
	m.row(n, "*", func(int) {
		m.spare(func(bool) {
			if n > 1 && m.pick(6) == 1 {
				m.wideType()
				return
			}
			m.applied()
		})
	})
}

// wideType puts a type of more than one part, in parentheses.
func (m *maker) wideType() {
	m.within(func() {
		if m.pick(2) > 0 {
			m.arrow()
			return
		}
		m.product(2 + m.pick(2))
	})
}

// applied puts a type that may stand ahead of another one's path.
func (m *maker) applied() {
	switch m.pick(5) {
	case 1:
		m.told("'a", []string{"'a", "'b", "'x_1'"}[m.rng.IntN(3)])
	case 2:
		m.wideType()
		m.path(m.word)
	case 3:
		m.within(func() { m.row(2+m.pick(2), ",", func(int) { m.ty() }) })
		m.path(m.word)
	default:
		m.spare(func(bool) { m.path(m.word) })
	}
	for range m.pick(3) {
		m.path(m.word)
	}
}

// Where an expression stands that a case may end.
const (
	free   = iota
	closed // an arm comes next: such a case needs parentheses
	eased  // likewise, but for others that stand around it in the loose text
)

func (m *maker) exp(where int) {
	m.spare(func(in bool) {
		if in && where == closed {
			where = eased
		}
		if m.pick(2) > 0 {
			m.wide(where)
			return
		}
		m.infix(1 + m.pick(3))
	})
}

// wide puts an if, a case or a fn.
func (m *maker) wide(where int) {
	switch m.pick(3) {
	case 1:
		m.say("if")
		m.exp(free)
		m.say("then")
		m.exp(free)
		m.say("else")
		m.exp(where)
	case 2:
		m.say("fn")
		m.pat()
		m.say("=>")
		m.exp(where)
	default:
		switch where {
		case closed:
			m.within(m.choice)
		case eased:
			m.tight = append(m.tight, "(")
			m.choice()
			m.tight = append(m.tight, ")")
		default:
			m.choice()
		}
	}
}

func (m *maker) choice() {
	m.say("case")
	m.exp(free)
	m.say("of")
	arms := m.some()
	m.row(arms, "|", func(i int) {
		m.pat()
		m.say("=>")
		if i < arms-1 {
			m.exp(closed)
			return
		}
		m.exp(free)
	})
}

// infix puts so many calls with signs between them.
func (m *maker) infix(n int) {
	for i := range n {
		if i > 0 {
			m.sign()
		}
		m.spare(func(bool) {
			if n > 1 && m.pick(5) == 1 {
				m.wideExp(false)
				return
			}
			m.call(1 + m.pick(3))
		})
	}
}

// wideExp puts an expression in parentheses that it needs beside a sign, or in a call.
func (m *maker) wideExp(inCall bool) {
	m.within(func() {
		switch {
		case inCall && m.pick(3) == 1:
			m.call(2 + m.pick(2))
		case m.pick(2) > 0:
			m.infix(2 + m.pick(2))
		default:
			m.wide(free)
		}
	})
}

// call puts so many atoms.
func (m *maker) call(n int) {
	for range n {
		m.spare(func(bool) {
			if n > 1 && m.pick(5) == 1 {
				m.wideExp(true)
				return
			}
			m.atom()
		})
	}
}

// constant puts an integer or a text.
func (m *maker) constant() {
	if m.rng.IntN(2) > 0 {
		m.told("0", []string{"0", "17", "007"}[m.rng.IntN(3)])
		return
	}
	m.told(`""`, []string{`""`, `"x (* \" "`}[m.rng.IntN(2)])
}

// tuple puts members in ( ), none, or two and more.
func (m *maker) tuple(member func()) {
	m.within(func() { m.row([]int{0, 2, 3}[m.pick(3)], ",", func(int) { member() }) })
}

func (m *maker) atom() {
	switch m.pick(6) {
	case 1:
		m.constant()
	case 2:
		m.path(m.cap)
	case 3:
		m.tuple(func() { m.exp(free) })
	case 4:
		m.say("let")
		m.decs(0)
		m.say("in")
		m.exp(free)
		m.say("end")
	case 5:
		m.value()
	default:
		m.path(m.word)
	}
}

func (m *maker) pat() {
	m.spare(func(bool) {
		if m.pick(3) > 1 {
			m.widePat()
			return
		}
		m.simplePat()
	})
}

// widePat puts a pattern that may be no parameter as it stands.
func (m *maker) widePat() {
	if m.pick(2) > 0 {
		m.word()
		m.say("as")
		m.pat()
		return
	}
	m.path(m.cap)
	m.apat()
}

// apat puts a pattern that may be a parameter.
func (m *maker) apat() {
	m.spare(func(bool) {
		if m.pick(4) == 1 {
			m.within(m.widePat)
			return
		}
		m.simplePat()
	})
}

func (m *maker) simplePat() {
	switch m.pick(5) {
	case 1:
		m.say("_")
	case 2:
		m.constant()
	case 3:
		m.path(m.cap)
	case 4:
		m.tuple(m.pat)
	default:
		m.value()
	}
}
