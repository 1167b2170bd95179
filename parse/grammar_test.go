package parse_test

import (
	"slices"
	"strings"

	"oriel/api"
	"oriel/lex"
)

// grammar is the chapter's grammar once more, with decs told apart by where they stand: of files (F), of structures (S), of let (L). Tokens stand in quotes, kinds of tokens in capitals.
const grammar = `
file = decsF
decsF = { decF | ";" }
decsS = { decS | ";" }
decsL = { decL | ";" }
decF = decS1F | "signature" CAP "=" sig | "functor" CAP "(" CAP ":" sig ")" [ ":" sig | ":>" sig ] "=" str
decS1F = plain | "structure" CAP [ ":" sig | ":>" sig ] "=" str | "local" decsF "in" decsF "end"
decS = plain | "structure" CAP [ ":" sig | ":>" sig ] "=" str | "local" decsS "in" decsS "end"
decL = plain | "local" decsL "in" decsL "end"
plain = "val" pat "=" exp | "fun" fb { "and" fb } | "type" [ vars ] WORD "=" ty | "datatype" db { "and" db } | "open" path
fb = ( WORD | "op" SIGN ) apat { apat } "=" exp
vars = VAR | "(" VAR { "," VAR } ")"
db = [ vars ] WORD "=" con { "|" con }
con = CAP [ "of" ty ]
path = CAP { "." CAP }
str = stra { ":" sig | ":>" sig }
stra = "struct" decsS "end" | CAP "(" str ")" | path
sig = siga { "where" "type" tpath "=" ty }
siga = "sig" { spec | ";" } "end" | CAP
spec = "val" ( WORD | "op" SIGN ) ":" ty | "type" [ vars ] WORD [ "=" ty ] | "datatype" db { "and" db } | "structure" CAP ":" sig | "include" sig
ty = prod [ "->" ty ]
prod = tapp { "*" tapp }
tapp = tatom { tpath }
tatom = VAR | tpath | "(" ty ")" | "(" ty "," ty { "," ty } ")" tpath
tpath = { CAP "." } WORD
exp = "if" exp "then" exp "else" exp | "case" exp "of" arm { "|" arm } | "fn" pat "=>" exp | app { SIGN app }
arm = pat "=>" exp
app = atom { atom }
atom = INT | TEXT | { CAP "." } WORD | path | "op" SIGN | "(" ")" | "(" exp { "," exp } ")" | "let" decsL "in" exp "end"
pat = WORD "as" pat | path apat | apat
apat = "_" | INT | TEXT | WORD | "op" SIGN | path | "(" ")" | "(" pat { "," pat } ")"
`

// rules is a grammar without brackets: of each name what it may be, symbol by symbol.
type rules map[string][][]string

// readGrammar makes of each bracket of the text a name of its own.
func readGrammar(text string) rules {
	g := rules{}
	for line := range strings.Lines(text) {
		if name, body, ok := strings.Cut(strings.TrimSpace(line), " = "); ok {
			in := strings.Fields(body)
			g[name] = g.choice(&in)
		}
	}
	return g
}

// choice reads what stands between brackets, up to the closing one.
func (g rules) choice(in *[]string) [][]string {
	all := [][]string{nil}
	for len(*in) > 0 {
		symbol := (*in)[0]
		*in = (*in)[1:]
		last := len(all) - 1
		switch symbol {
		case "|":
			all = append(all, nil)
		case "]", "}", ")":
			return all
		case "[", "{", "(":
			name := "#" + string(rune('a'+len(g)%26)) + strings.Repeat("'", len(g)/26)
			g[name] = nil // so that brackets within have other names
			inner := g.choice(in)
			if symbol == "{" {
				for i := range inner {
					inner[i] = append(inner[i], name)
				}
			}
			if symbol != "(" {
				inner = append(inner, nil)
			}
			g[name] = inner
			all[last] = append(all[last], name)
		default:
			all[last] = append(all[last], symbol)
		}
	}
	return all
}

// classes is of each kind of token that the grammar names how it names it.
var classes = map[int]string{
	api.TkInt: "INT", api.TkText: "TEXT", api.TkWord: "WORD", api.TkCap: "CAP", api.TkVar: "VAR", api.TkSign: "SIGN",
}

// fits says whether a symbol of the grammar is the token k with these bytes.
func fits(symbol string, kind int, bytes string) bool {
	return symbol == `"`+bytes+`"` || symbol == classes[kind]
}

// item is a rule that is being read: how much of it has been, and behind how many tokens it began.
type item struct {
	name       string
	rule, done int
	from       int
}

// chart is, by Earley's way, all that may be being read behind each number of tokens. What it takes is just what begins some text of the grammar.
type chart struct {
	g    rules
	sets [][]item
}

func newChart(g rules, start string) *chart {
	c := &chart{g: g}
	set := []item{}
	for i := range g[start] {
		set = append(set, item{start, i, 0, 0})
	}
	c.sets = [][]item{c.close(set)}
	return c
}

// close adds to the set, the one behind those that are there, all that follows from it.
func (c *chart) close(set []item) []item {
	seen := map[item]bool{}
	for _, x := range set {
		seen[x] = true
	}
	add := func(x item) {
		if !seen[x] {
			seen[x] = true
			set = append(set, x)
		}
	}
	n := len(c.sets)
	for more := 0; more < len(set); { // until nothing comes that was not there: rules may be empty
		more = len(set)
		for i := 0; i < len(set); i++ {
			x := set[i]
			if symbol, ok := c.symbol(x); ok {
				for k := range c.g[symbol] {
					add(item{symbol, k, 0, n})
				}
				continue
			}
			back := set
			if x.from < n {
				back = c.sets[x.from]
			}
			for _, y := range back {
				if symbol, ok := c.symbol(y); ok && symbol == x.name {
					y.done++
					add(y)
				}
			}
		}
	}
	return set
}

// symbol is what x reads next; false, if it has been read whole.
func (c *chart) symbol(x item) (string, bool) {
	rule := c.g[x.name][x.rule]
	if x.done == len(rule) {
		return "", false
	}
	return rule[x.done], true
}

// take goes past one more token, and says whether it may stand there; if not, nothing is done.
func (c *chart) take(kind int, bytes string) bool {
	var set []item
	for _, x := range c.sets[len(c.sets)-1] {
		if symbol, ok := c.symbol(x); ok && fits(symbol, kind, bytes) {
			x.done++
			set = append(set, x)
		}
	}
	if set == nil {
		return false
	}
	c.sets = append(c.sets, c.close(set))
	return true
}

// drop goes back by one token.
func (c *chart) drop() { c.sets = c.sets[:len(c.sets)-1] }

// whole says whether what was taken is a text of the grammar.
func (c *chart) whole(start string) bool {
	return slices.ContainsFunc(c.sets[len(c.sets)-1], func(x item) bool {
		_, more := c.symbol(x)
		return !more && x.name == start && x.from == 0
	})
}

// formed is where the first token of s stands that can't stand there, and ErrForm; 0 and OK, if there is none. It knows nothing of how deep parts lie.
func formed(g rules, start, s string) (int, api.Errno) {
	c := newChart(g, start)
	words := lex.Words(s)
	for i, text := range lex.Texts(s, words) {
		if words[i].Kind == api.TkEnd {
			if !c.whole(start) {
				return words[i].At, api.ErrForm
			}
			break
		}
		if !c.take(words[i].Kind, text) {
			return words[i].At, api.ErrForm
		}
	}
	return 0, api.OK
}
