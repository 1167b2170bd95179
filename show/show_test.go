package show_test

import (
	"slices"
	"strings"
	"testing"

	"oriel/api"
	"oriel/ast"
	"oriel/show"
)

// read is a file that is one, and the names of its occurrences.
func read(t *testing.T, s string) (api.Node, []string) {
	t.Helper()
	n, l, at, err := ast.File(s, 0, 0)
	if at != 0 || err != api.OK {
		t.Fatalf("%.300q: %d %v", s, at, err)
	}
	return n, show.Names(s, l)
}

// P9.1: what each construct is told as; what is left out is told as it stands.
var told = []struct{ text, want string }{
	{"val (x) = f(1)+2;", "val x = f 0 + 0"},
	{"", ""},
	{" ;; (* x *) ; ", ""},
	{"val x=1;val y=2", "val x = 0 val y = 0"},
	{`val x = "a b"`, `val x = ""`},
	{"val x=M.N.y val z=M.A", "val x = M . N . y val z = M . A"},

	// A sign behind op.
	{"val op+ = op-", "val op + = op -"},
	{"fun op ++(x,_)=x and f (op*) = 1", "fun op ++ ( x , _ ) = x and f op * = 0"},
	{"signature S=sig val op+ :t val x:t end", "signature S = sig val op + : t val x : t end"},
	{"val x=a+op * b", "val x = a + op * b"},
	{"val x=a-M.b<c", "val x = a - M . b < c"},

	// Declarations.
	{"fun f x=1 and g _ 2 \"\" A M.B()=x", `fun f x = 0 and g _ 0 "" A M . B ( ) = x`},
	{"type t=u type 'a t=u type('a,'b)t='c", "type t = u type t = u type t = 'a"},
	{"datatype 'a t=A of 'b|B and u=C of(t*u)", "datatype t = A of 'a | B and u = C of t * u"},
	{"structure M=N structure M:S=N.O structure M:>S=N", "structure M = N structure M : S = N . O structure M :> S = N"},
	{"signature S=T", "signature S = T"},
	{"functor F(X:S)=X functor F(X:S):T=X functor F(X:S):>T=X", "functor F ( X : S ) = X functor F ( X : S ) : T = X functor F ( X : S ) :> T = X"},
	{"open M;open M.N", "open M open M . N"},
	{"local;val x=1;in;open M;end", "local val x = 0 in open M end"},
	{"local in end", "local in end"},

	// Structures and signatures.
	{"structure M=struct;end", "structure M = struct end"},
	{"structure M=struct;open N;val x=1;end", "structure M = struct open N val x = 0 end"},
	{"structure M=F(G(N:S))", "structure M = F ( G ( N : S ) )"},
	{"structure M=N:S:>T", "structure M = N : S :> T"},
	{"signature S=sig end", "signature S = sig end"},
	{"signature S=sig;type t;type u=t;type 'a v;datatype t=A|B of t;structure M:T;include U;end",
		"signature S = sig type t type u = t type v datatype t = A | B of t structure M : T include U end"},
	{"signature S=T where type t=u where type M.N.t=u*v", "signature S = T where type t = u where type M . N . t = u * v"},

	// Expressions.
	{"val x=()", "val x = ( )"},
	{"val x=(1,(y),((z,A)))", "val x = ( 0 , y , ( z , A ) )"},
	{"val x=f(g)(h i)j", "val x = f g ( h i ) j"},
	{"val x=(f g)h", "val x = ( f g ) h"},
	{"val x=(f g)+h i", "val x = f g + h i"},
	{"val x=(a+b)*(c)-(d,e)", "val x = ( a + b ) * c - ( d , e )"},
	{"val x=f(a+b)", "val x = f ( a + b )"},
	{"val x=if(if a then b else c)then(d)else if e then f else g", "val x = if if a then b else c then d else if e then f else g"},
	{"val x=(if a then b else c)+(fn x=>x)", "val x = ( if a then b else c ) + ( fn x => x )"},
	{"val x=f(if a then b else c)(fn x=>x)(case a of b=>c)", "val x = f ( if a then b else c ) ( fn x => x ) ( case a of b => c )"},
	{"val x=a+(case a of b=>c)", "val x = a + ( case a of b => c )"},
	{"val x=fn(x)=>(fn y=>(x+y))", "val x = fn x => fn y => x + y"},
	{"val x=let;val y=1;in(y)end z", "val x = let val y = 0 in y end z"},
	{"val x=let in let open M in 1 end end+1", "val x = let in let open M in 0 end end + 0"},
	{"val x=f(let in 1 end)", "val x = f let in 0 end"},

	// The case that ends an arm's expression.
	{"val x=case a of 1=>b|(_)=>c", "val x = case a of 0 => b | _ => c"},
	{"val x=case(case a of b=>c)of d=>e|f=>g", "val x = case case a of b => c of d => e | f => g"},
	{"val x=case a of b=>(case c of d=>e|f=>g)|h=>i", "val x = case a of b => ( case c of d => e | f => g ) | h => i"},
	{"val x=case a of b=>c|d=>(case e of f=>g)", "val x = case a of b => c | d => case e of f => g"},
	{"val x=case a of b=>(case c of d=>case e of f=>g)|h=>i", "val x = case a of b => ( case c of d => case e of f => g ) | h => i"},
	{"val x=case a of b=>(if c then d else case e of f=>g)|h=>i", "val x = case a of b => if c then d else ( case e of f => g ) | h => i"},
	{"val x=case a of b=>if(case c of d=>e)then case f of g=>h else i|j=>k",
		"val x = case a of b => if case c of d => e then case f of g => h else i | j => k"},
	{"val x=case a of b=>(fn c=>if d then e else fn f=>case g of h=>i)|j=>k",
		"val x = case a of b => fn c => if d then e else fn f => ( case g of h => i ) | j => k"},
	{"val x=case a of b=>let in case c of d=>e end|f=>(case g of h=>i,1)|j=>k",
		"val x = case a of b => let in case c of d => e end | f => ( case g of h => i , 0 ) | j => k"},
	{"val x=case a of b=>c+(case d of e=>f)|g=>h", "val x = case a of b => c + ( case d of e => f ) | g => h"},

	// Patterns.
	{"val(x as(y as _))=1", "val x as y as _ = 0"},
	{"val A(B(x))=1", "val A ( B x ) = 0"},
	{"val A(B)=1", "val A B = 0"},
	{"val M.A(x as y)=1", "val M . A ( x as y ) = 0"},
	{"val A(x,B y,z as 1)=1", "val A ( x , B y , z as 0 ) = 0"},
	{"val x as(A y)=1", "val x as A y = 0"},
	{"fun f(A x)(B)(y as z)(1)=1", "fun f ( A x ) B ( y as z ) 0 = 0"},
	{"val x=fn(A x)=>case y of(B z)=>1|(u as v)=>2", "val x = fn A x => case y of B z => 0 | u as v => 0"},

	// Types.
	{"type t=(a->b)->c", "type t = ( a -> b ) -> c"},
	{"type t=a->(b->c)", "type t = a -> b -> c"},
	{"type t=(a*b)->(c*d)", "type t = a * b -> c * d"},
	{"type t=(a*b)*c*(d->e)", "type t = ( a * b ) * c * ( d -> e )"},
	{"type t=(a->b)c", "type t = ( a -> b ) c"},
	{"type t=(a*b)c d", "type t = ( a * b ) c d"},
	{"type t=(a c)d M.N.e", "type t = a c d M . N . e"},
	{"type t=(a->b,(c*d),'x)M.e", "type t = ( a -> b , c * d , 'a ) M . e"},
	{"type t='a list*('b)u", "type t = 'a list * 'a u"},
}

func TestTold(t *testing.T) {
	for _, d := range told {
		n, names := read(t, d.text)
		if got := show.Show(n, names); got != d.want {
			t.Errorf("%q:\n got %s\nwant %s", d.text, got, d.want)
		}
	}
}

// made is a file that was made, as a text with blanks and notes at will.
func made(m *maker) string {
	var s strings.Builder
	for _, token := range m.loose {
		s.WriteString(token)
		s.WriteString([]string{" ", "\n\t", " (* f ( *) "}[m.rng.IntN(8)/3])
	}
	return s.String()
}

// P9.1: whatever stands in a file that it does not need, its text is of the tokens that it needs, one blank between each two.
func TestMade(t *testing.T) {
	size := 0
	for seed := range uint64(6000) {
		m := newMaker(seed, int(seed)%200)
		s := made(m)
		n, names := read(t, s)
		want := strings.Join(m.tight, " ")
		if got := show.Show(n, names); got != want {
			t.Fatalf("%s:\n got %s\nwant %s", s, got, want)
		}
		size += len(m.tight)
	}
	if size < 400000 {
		t.Fatal("little was made:", size)
	}
}

// P9.3, P9.4: a file's text is read as a file that is alike, with the same names, and told so once more it is the same text.
func TestBack(t *testing.T) {
	check := func(s string) {
		n, names := read(t, s)
		text := show.Show(n, names)
		back, same := read(t, text)
		if !ast.Alike(n, back) || !slices.Equal(names, same) {
			t.Fatalf("%s:\n %s", s, text)
		}
		if again := show.Show(back, same); again != text {
			t.Fatalf("%s:\n %s\n %s", s, text, again)
		}
	}
	for _, d := range told {
		check(d.text)
	}
	for seed := range uint64(3000) {
		check(made(newMaker(10000+seed, int(seed)%150)))
	}
}

// P9.1, P9.3: no parentheses stand in a file's text that it does not need: without any two of them it is another file, or none.
func TestNeeded(t *testing.T) {
	pairs := 0
	for seed := range uint64(1000) {
		n, names := read(t, made(newMaker(20000+seed, 60)))
		tokens := strings.Fields(show.Show(n, names))
		var open []int
		for i, token := range tokens {
			switch token {
			case "(":
				open = append(open, i)
			case ")":
				from := open[len(open)-1]
				open = open[:len(open)-1]
				pairs++
				less := strings.Join(slices.Concat(tokens[:from], tokens[from+1:i], tokens[i+1:]), " ")
				if back, _, _, err := ast.File(less, 0, 0); err == api.OK && ast.Alike(n, back) {
					t.Fatalf("%s\n%s", strings.Join(tokens, " "), less)
				}
			}
		}
	}
	if pairs < 3000 {
		t.Fatal("few parentheses:", pairs)
	}
}

// P9.3: parts that lie as deep as they may are told no deeper than they lay.
func TestDeepest(t *testing.T) {
	times := strings.Repeat
	for _, text := range []func(n int) string{
		func(n int) string { return "val x = " + times("(", n) + "y" + times(")", n) },
		func(n int) string {
			return "val x = case a of b => " + times("(", n) + "if c then d else case e of f => g" + times(")", n) + " | h => i"
		},
		func(n int) string {
			return "val x = case a of b => " + times("if a then b else ", n) + "(case d of e => f) | g => h"
		},
		func(n int) string {
			return "val x = case a of b => (" + times("fn x => ", n) + "case d of e => f) | g => h"
		},
		func(n int) string {
			return "val x = case a of b => " + times("fn x => (", n) + "case d of e => f" + times(")", n) + " | g => h"
		},
		func(n int) string { return "val x = " + times("case a of b => (", n) + "c" + times(") | d => e", n) },
		func(n int) string { return "val x = a + (" + times("b * (", n) + "c * d" + times(")", n+1) },
		func(n int) string { return "val " + times("A (", n) + "x as _" + times(")", n) + " = 1" },
		func(n int) string { return "type t = " + times("(", n) + "u" + times(" -> v)", n) },
	} {
		deepest := api.MaxNest
		for _, _, _, err := ast.File(text(deepest), 0, 0); err != api.OK; _, _, _, err = ast.File(text(deepest), 0, 0) {
			deepest--
		}
		if deepest < api.MaxNest/2-5 || deepest == api.MaxNest {
			t.Fatal(deepest, text(3))
		}
		n, names := read(t, text(deepest))
		back, same := read(t, show.Show(n, names))
		if !ast.Alike(n, back) || !slices.Equal(names, same) {
			t.Fatal(text(3))
		}
	}
}
