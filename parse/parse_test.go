package parse_test

import (
	"math/rand/v2"
	"slices"
	"strconv"
	"strings"
	"testing"

	"oriel/api"
	"oriel/lex"
	"oriel/parse"
	"oriel/tree"
)

// face is a call of the package, and what it reads by the grammar's name.
type face struct {
	start string
	call  func(s string) (api.Branch, int, api.Errno)
	make  func(m *maker) api.Branch
}

var faces = []face{
	{"file", parse.File, (*maker).file},
	{"exp", parse.Exp, func(m *maker) api.Branch { return m.exp(0) }},
	{"pat", parse.Pat, func(m *maker) api.Branch { return m.pat(0) }},
	{"ty", parse.Type, (*maker).ty},
	{"sig", parse.Sig, (*maker).sig},
}

// faceOf is the face that reads what the grammar calls so.
func faceOf(start string) face {
	return faces[slices.IndexFunc(faces, func(f face) bool { return f.start == start })]
}

// alphabet is a token of each sort, and of some two.
var alphabet = strings.Fields(`and as case datatype else end fn fun functor if in include let local of op open
	sig signature struct structure then type val where ( ) , . ; _ = => | : :> -> * + x M 0 "" 'a`)

// kindNames is how a branch is drawn.
var kindNames = strings.Fields(`- file decs val fun fbind type data dbind con str sig functor open local struct path apply seal
	body siguse where valspec tyspec strspec include int text var conuse tuple if case arm fn let call infix any bind as tyvar tyuse arrow prod`)

// draw is b as a text: its kind, its mark (! for each), its tokens, its names behind #, and its kids.
func draw(b api.Branch) string {
	s := kindNames[b.Kind] + strings.Repeat("!", b.Mark) + strconv.Itoa(b.From) + "-" + strconv.Itoa(b.To)
	for _, n := range b.Names {
		s += "#" + strconv.Itoa(n)
	}
	var kids []string
	for _, kid := range b.Kids {
		kids = append(kids, draw(kid))
	}
	if kids != nil {
		s += "(" + strings.Join(kids, " ") + ")"
	}
	return s
}

// empty says whether b is the branch that is zero.
func empty(b api.Branch) bool { return tree.Same(b, api.Branch{}) }

// refused holds an answer against a fault.
func refused(t *testing.T, f face, s string, wantAt int, want api.Errno) {
	t.Helper()
	if b, at, err := f.call(s); at != wantAt || err != want || !empty(b) {
		t.Fatalf("%s %.300q: %d %v %s, not %d %v", f.start, s, at, err, draw(b), wantAt, want)
	}
}

// taken holds an answer against a branch.
func taken(t *testing.T, f face, s string, want api.Branch) {
	t.Helper()
	if b, at, err := f.call(s); at != 0 || err != api.OK || !tree.Same(b, want) {
		t.Fatalf("%s %.300q: %d %v\n%s\nnot\n%s", f.start, s, at, err, draw(b), draw(want))
	}
}

// P7.1, P7.2: each construct and each edge of the grammar, drawn by hand.
var drawn = []struct{ start, text, want string }{
	{"exp", "1", "int0-1"},
	{"exp", `"a"`, "text0-1"},
	{"exp", "x", "var0-1#0"},
	{"exp", "M.N.x", "var0-5#0#2#4"},
	{"exp", "M", "conuse0-1#0"},
	{"exp", "M.N", "conuse0-3#0#2"},
	{"exp", "op +", "var0-2#1"},
	{"exp", "op *", "var0-2#1"},
	{"exp", "()", "tuple0-2"},
	{"exp", "(x)", "var1-2#1"},
	{"exp", "((x))", "var2-3#2"},
	{"exp", "(1, x)", "tuple0-5(int1-2 var3-4#3)"},
	{"exp", "((1, (x)))", "tuple1-8(int2-3 var5-6#5)"},
	{"exp", "f x", "call0-2(var0-1#0 var1-2#1)"},
	{"exp", "f (x) ()", "call0-6(var0-1#0 var2-3#2 tuple4-6)"},
	{"exp", "(f) (x)", "call0-6(var1-2#1 var4-5#4)"},
	{"exp", "(f x) y", "call0-5(call1-3(var1-2#1 var2-3#2) var4-5#4)"},
	{"exp", "M (x)", "call0-4(conuse0-1#0 var2-3#2)"},
	{"exp", "f (1, x) + y", "infix0-8#6(call0-6(var0-1#0 tuple1-6(int2-3 var4-5#4)) var7-8#7)"},
	{"exp", "a + b * c", "infix0-5#1#3(var0-1#0 var2-3#2 var4-5#4)"},
	{"exp", "(a) + (b)", "infix0-7#3(var1-2#1 var5-6#5)"},
	{"exp", "a + (b + c)", "infix0-7#1(var0-1#0 infix3-6#4(var3-4#3 var5-6#5))"},
	{"exp", "f op + x", "call0-4(var0-1#0 var1-3#2 var3-4#3)"},
	{"exp", "op + + op +", "infix0-5#2(var0-2#1 var3-5#4)"},
	{"exp", "if a then b else c + d", "if0-8(var1-2#1 var3-4#3 infix5-8#6(var5-6#5 var7-8#7))"},
	{"exp", "if a then if b then c else d else e", "if0-11(var1-2#1 if3-9(var4-5#4 var6-7#6 var8-9#8) var10-11#10)"},
	{"exp", "fn x => f x", "fn0-5(bind1-2#1 call3-5(var3-4#3 var4-5#4))"},
	{"exp", "case a of x => 1", "case0-6(var1-2#1 arm3-6(bind3-4#3 int5-6))"},
	{"exp", "case a of (x) => (1)", "case0-10(var1-2#1 arm3-10(bind4-5#4 int8-9))"},
	{"exp", "case a of A => 1 | _ => 2", "case0-10(var1-2#1 arm3-6(conuse3-4#3 int5-6) arm7-10(any7-8 int9-10))"},
	{"exp", "case a of A => case b of B => 1 | C => 2",
		"case0-15(var1-2#1 arm3-15(conuse3-4#3 case5-15(var6-7#6 arm8-11(conuse8-9#8 int10-11) arm12-15(conuse12-13#12 int14-15))))"},
	{"exp", "case a of A => (case b of B => 1) | C => 2",
		"case0-17(var1-2#1 arm3-13(conuse3-4#3 case6-12(var7-8#7 arm9-12(conuse9-10#9 int11-12))) arm14-17(conuse14-15#14 int16-17))"},
	{"exp", "case a of A => fn x => case b of B => 1 | C => 2",
		"case0-18(var1-2#1 arm3-18(conuse3-4#3 fn5-18(bind6-7#6 case8-18(var9-10#9 arm11-14(conuse11-12#11 int13-14) arm15-18(conuse15-16#15 int17-18)))))"},
	{"exp", "let in x end", "let0-4(decs1-1 var2-3#2)"},
	{"exp", "let ; ; in (x) end", "let0-8(decs1-3 var5-6#5)"},
	{"exp", "let ; val x = 1; in x end y", "call0-11(let0-10(decs1-7(val2-6(bind3-4#3 int5-6)) var8-9#8) var10-11#10)"},
	{"exp", "let local in end in x end", "let0-7(decs1-4(local1-4(decs2-2 decs3-3)) var5-6#5)"},
	{"pat", "_", "any0-1"},
	{"pat", "1", "int0-1"},
	{"pat", `""`, "text0-1"},
	{"pat", "x", "bind0-1#0"},
	{"pat", "op +", "bind0-2#1"},
	{"pat", "()", "tuple0-2"},
	{"pat", "(x)", "bind1-2#1"},
	{"pat", "(x, _)", "tuple0-5(bind1-2#1 any3-4)"},
	{"pat", "A", "conuse0-1#0"},
	{"pat", "M.A", "conuse0-3#0#2"},
	{"pat", "M.A x", "conuse0-4#0#2(bind3-4#3)"},
	{"pat", "A (B x)", "conuse0-5#0(conuse2-4#2(bind3-4#3))"},
	{"pat", "A B", "conuse0-2#0(conuse1-2#1)"},
	{"pat", "A M.B", "conuse0-4#0(conuse1-4#1#3)"},
	{"pat", "A ()", "conuse0-3#0(tuple1-3)"},
	{"pat", "A op +", "conuse0-3#0(bind1-3#2)"},
	{"pat", "A _", "conuse0-2#0(any1-2)"},
	{"pat", "x as y as A z", "as0-6#0(as2-6#2(conuse4-6#4(bind5-6#5)))"},
	{"pat", "(x as y, z)", "tuple0-7(as1-4#1(bind3-4#3) bind5-6#5)"},
	{"ty", "'a", "tyvar0-1"},
	{"ty", "t", "tyuse0-1#0"},
	{"ty", "M.N.t", "tyuse0-5#0#2#4"},
	{"ty", "(t)", "tyuse1-2#1"},
	{"ty", "'a t", "tyuse0-2#1(tyvar0-1)"},
	{"ty", "t u v", "tyuse0-3#2(tyuse0-2#1(tyuse0-1#0))"},
	{"ty", "t M.u", "tyuse0-4#1#3(tyuse0-1#0)"},
	{"ty", "(t) u", "tyuse0-4#3(tyuse1-2#1)"},
	{"ty", "('a, t) M.u v", "tyuse0-9#8(tyuse0-8#5#7(tyvar1-2 tyuse3-4#3))"},
	{"ty", "a * b * c", "prod0-5(tyuse0-1#0 tyuse2-3#2 tyuse4-5#4)"},
	{"ty", "a * (b * c)", "prod0-7(tyuse0-1#0 prod3-6(tyuse3-4#3 tyuse5-6#5))"},
	{"ty", "a -> b -> c", "arrow0-5(tyuse0-1#0 arrow2-5(tyuse2-3#2 tyuse4-5#4))"},
	{"ty", "(a -> b) -> c", "arrow0-7(arrow1-4(tyuse1-2#1 tyuse3-4#3) tyuse6-7#6)"},
	{"ty", "int * 'a list -> M.t", "arrow0-8(prod0-4(tyuse0-1#0 tyuse2-4#3(tyvar2-3)) tyuse5-8#5#7)"},
	{"sig", "S", "siguse0-1#0"},
	{"sig", "sig end", "body0-2"},
	{"sig", "sig ; ; end", "body0-4"},
	{"sig", "sig val x : t; val op + : 'a end", "body0-12(valspec1-5#2(tyuse4-5#4) valspec6-11#8(tyvar10-11))"},
	{"sig", "sig type t type 'a u = t type ('a, 'b) v end",
		"body0-16(tyspec1-3#2 tyspec3-8#5(tyuse7-8#7) tyspec8-15#14)"},
	{"sig", "sig datatype t = A | B of t and 'a u = C end",
		"body0-15(data1-14(dbind2-9#2(con4-5#4 con6-9#6(tyuse8-9#8)) dbind10-14#11(con13-14#13)))"},
	{"sig", "sig structure M : S include T end", "body0-8(strspec1-5#2(siguse4-5#4) include5-7(siguse6-7#6))"},
	{"sig", "S where type t = u", "where0-6#3(siguse0-1#0 tyuse5-6#5)"},
	{"sig", "S where type M.t = u where type v = w",
		"where0-13#10(where0-8#3#5(siguse0-1#0 tyuse7-8#7) tyuse12-13#12)"},
	{"sig", "sig include S where type t = u end where type v = w",
		"where0-14#11(body0-9(include1-8(where2-8#5(siguse2-3#2 tyuse7-8#7))) tyuse13-14#13)"},
	{"sig", "sig structure M : S where type t = u end", "body0-11(strspec1-10#2(where4-10#7(siguse4-5#4 tyuse9-10#9)))"},
	{"file", "", "file0-0"},
	{"file", " (* *) ", "file0-0"},
	{"file", ";;", "file0-2"},
	{"file", ";val x = 1;", "file0-6(val1-5(bind2-3#2 int4-5))"},
	{"file", "val x = (1)", "file0-6(val0-6(bind1-2#1 int4-5))"},
	{"file", "fun f x (y, z) A M.B = 1 and op + _ = 2",
		"file0-20(fun0-20(fbind1-14#1(bind2-3#2 tuple3-8(bind4-5#4 bind6-7#6) conuse8-9#8 conuse9-12#9#11 int13-14)" +
			" fbind15-20#16(any17-18 int19-20)))"},
	{"file", "type t = u type 'a v = t type ('a, 'b) w = t type ('a) z = t",
		"file0-25(type0-4#1(tyuse3-4#3) type4-9#6(tyuse8-9#8) type9-18#15(tyuse17-18#17) type18-25#22(tyuse24-25#24))"},
	{"file", "datatype 'a t = A of t * t | B and u = C",
		"file0-15(data0-15(dbind1-11#2(con4-9#4(prod6-9(tyuse6-7#6 tyuse8-9#8)) con10-11#10) dbind12-15#12(con14-15#14)))"},
	{"file", "structure M = N", "file0-4(str0-4#1(path3-4#3))"},
	{"file", "structure M : S = N.O", "file0-8(str!0-8#1(siguse3-4#3 path5-8#5#7))"},
	{"file", "structure M :> S = F (N)", "file0-9(str!!0-9#1(siguse3-4#3 apply5-9#5(path7-8#7)))"},
	{"file", "structure M = N : S :> T", "file0-8(str0-8#1(seal!!3-8(seal!3-6(path3-4#3 siguse5-6#5) siguse7-8#7)))"},
	{"file", "structure M = F (N : S) :> T", "file0-11(str0-11#1(seal!!3-11(apply3-9#3(seal!5-8(path5-6#5 siguse7-8#7)) siguse10-11#10)))"},
	{"file", "structure M = struct ; val x = 1 structure N = M; end",
		"file0-15(str0-15#1(struct3-15(val5-9(bind6-7#6 int8-9) str9-13#10(path12-13#12))))"},
	{"file", "structure M = struct end", "file0-5(str0-5#1(struct3-5))"},
	{"file", "signature S = sig end", "file0-5(sig0-5#1(body3-5))"},
	{"file", "functor F (X : S) = X", "file0-9(functor0-9#1#3(siguse5-6#5 path8-9#8))"},
	{"file", "functor F (X : S) : T = X", "file0-11(functor!0-11#1#3(siguse5-6#5 siguse8-9#8 path10-11#10))"},
	{"file", "functor F (X : S) :> T = X", "file0-11(functor!!0-11#1#3(siguse5-6#5 siguse8-9#8 path10-11#10))"},
	{"file", "open M open M.N", "file0-6(open0-2#1 open2-6#3#5)"},
	{"file", "local ; val x = 1 in signature S = T functor F (X : S) = X end",
		"file0-21(local0-21(decs1-6(val2-6(bind3-4#3 int5-6)) decs7-20(sig7-11#8(siguse10-11#10) functor11-20#12#14(siguse16-17#16 path19-20#19))))"},
	{"file", "local in end", "file0-3(local0-3(decs1-1 decs2-2))"},
}

func TestDrawn(t *testing.T) {
	for _, d := range drawn {
		b, at, err := faceOf(d.start).call(d.text)
		if got := draw(b); got != d.want || at != 0 || err != api.OK {
			t.Errorf("%s %.300q: %d %v\n got %s\nwant %s", d.start, d.text, at, err, got, d.want)
		}
	}
}

// P7.1, P7.2: wrong inputs, and the place of the first token that can't stand there.
var wrong = []struct {
	start, text string
	at          int
}{
	{"file", "val x =", 7},
	{"file", "val x =  (* *) ", 15},
	{"file", "val", 3},
	{"file", "x", 0},
	{"file", "val x = 1 end", 10},
	{"file", "val x = 1, 2", 9},
	{"file", "val x 1", 6},
	{"file", "val op = = 1", 7},
	{"file", "val + = 1", 4},
	{"file", "fun f = 1", 6},
	{"file", "fun F x = 1", 4},
	{"file", "fun + x = 1", 4},
	{"file", "fun f A . = 1", 10},
	{"file", "fun f x as y = 1", 8},
	{"file", "fun f x = 1 and", 15},
	{"file", "fun f x = 1 | f y = 2", 12},
	{"file", "type 'a 'b t = u", 8},
	{"file", "type () t = u", 6},
	{"file", "type ('a,) t = u", 9},
	{"file", "type t", 6},
	{"file", "type M.t = u", 5},
	{"file", "datatype t = a", 13},
	{"file", "datatype t = A |", 16},
	{"file", "datatype t = A of", 17},
	{"file", "datatype t = | A", 13},
	{"file", "structure m = N", 10},
	{"file", "structure M.N = N", 11},
	{"file", "structure M : S", 15},
	{"file", "structure M = x", 14},
	{"file", "structure M = N.x", 16},
	{"file", "structure M = N.O (P)", 18},
	{"file", "structure M = (N)", 14},
	{"file", "structure M = F ()", 17},
	{"file", "structure M = F (N) (O)", 20},
	{"file", "structure M = struct signature S = T end", 21},
	{"file", "structure M = struct functor F (X : S) = X end", 21},
	{"file", "structure M = struct local signature S = T in end end", 27},
	{"file", "structure M = struct local in functor F (X : S) = X end end", 30},
	{"file", "structure M = struct", 20},
	{"file", "signature S = T.U", 15},
	{"file", "signature S : T = U", 12},
	{"file", "signature S = (T)", 14},
	{"file", "functor F (X) = X", 12},
	{"file", "functor F (X :> S) = X", 13},
	{"file", "functor F X : S = X", 10},
	{"file", "functor F (X : S, Y : T) = X", 16},
	{"file", "open", 4},
	{"file", "open x", 5},
	{"file", "open M.x", 7},
	{"file", "open M.", 7},
	{"file", "open M N", 7},
	{"file", "local val x = 1 end", 16},
	{"file", "local in in end", 9},
	{"file", "val x = let structure M = N in 1 end", 12},
	{"file", "val x = let signature S = T in 1 end", 12},
	{"file", "val x = let functor F (X : S) = X in 1 end", 12},
	{"file", "val x = let local structure M = N in end in 1 end", 18},
	{"file", "structure M = struct val x = let structure M = N in 1 end end", 33},
	{"exp", "", 0},
	{"exp", " ", 1},
	{"exp", ";", 0},
	{"exp", "x;", 1},
	{"exp", "x = y", 2},
	{"exp", "M.", 2},
	{"exp", "M.N x.y", 5},
	{"exp", "M.op +", 2},
	{"exp", "M..x", 2},
	{"exp", "1.x", 1},
	{"exp", "op x", 3},
	{"exp", "op", 2},
	{"exp", "'a", 0},
	{"exp", "_", 0},
	{"exp", "(1,)", 3},
	{"exp", "(,1)", 1},
	{"exp", "(1", 2},
	{"exp", "(1 2", 4},
	{"exp", "+ x", 0},
	{"exp", "x +", 3},
	{"exp", "x + + y", 4},
	{"exp", "x + fn y => y", 4},
	{"exp", "f if a then b else c", 2},
	{"exp", "if a then b", 11},
	{"exp", "if a else b", 5},
	{"exp", "case a of", 9},
	{"exp", "case a of A", 11},
	{"exp", "case a of A => 1 |", 18},
	{"exp", "case a of | A => 1", 10},
	{"exp", "fn x y => 1", 5},
	{"exp", "fn x = 1", 5},
	{"exp", "fn x => 1 | y => 2", 10},
	{"exp", "let val x = 1 in end", 17},
	{"exp", "let val x = 1 in 1; 2 end", 18},
	{"exp", "let x in 1 end", 4},
	{"exp", "x : t", 2},
	{"pat", "", 0},
	{"pat", "x y", 2},
	{"pat", "M.x", 2},
	{"pat", "M.", 2},
	{"pat", "A x y", 4},
	{"pat", "A x as y", 4},
	{"pat", "A as x", 2},
	{"pat", "op + as x", 5},
	{"pat", "x as", 4},
	{"pat", "(x", 2},
	{"pat", "(x,)", 3},
	{"pat", "x :: y", 2},
	{"pat", "+", 0},
	{"pat", "if", 0},
	{"ty", "", 0},
	{"ty", "M", 1},
	{"ty", "M.N", 3},
	{"ty", "t M", 3},
	{"ty", "M.t.u", 3},
	{"ty", "t *", 3},
	{"ty", "t ** u", 2},
	{"ty", "t + u", 2},
	{"ty", "t ->", 4},
	{"ty", "-> t", 0},
	{"ty", "()", 1},
	{"ty", "(t", 2},
	{"ty", "(t,)", 3},
	{"ty", "(t, u)", 6},
	{"ty", "(t, u) * v", 7},
	{"ty", "(t, u) 'a", 7},
	{"ty", "t 'a", 2},
	{"ty", "t (u)", 2},
	{"ty", "1", 0},
	{"sig", "", 0},
	{"sig", "s", 0},
	{"sig", "S.T", 1},
	{"sig", "S T", 2},
	{"sig", "sig", 3},
	{"sig", "sig x end", 4},
	{"sig", "sig val x = t end", 10},
	{"sig", "sig val x : t = 1 end", 14},
	{"sig", "sig val + : t end", 8},
	{"sig", "sig fun f : t end", 4},
	{"sig", "sig structure M = S end", 16},
	{"sig", "sig structure M :> S end", 16},
	{"sig", "sig signature S = T end", 4},
	{"sig", "sig open M end", 4},
	{"sig", "sig include end", 12},
	{"sig", "sig type = t end", 9},
	{"sig", "S where", 7},
	{"sig", "S where t = u", 8},
	{"sig", "S where type 'a t = u", 13},
	{"sig", "S where type M = u", 15},
	{"sig", "S where type t", 14},
	{"sig", "where type t = u", 0},
}

func TestWrong(t *testing.T) {
	for _, w := range wrong {
		refused(t, faceOf(w.start), w.text, w.at, api.ErrForm)
	}
}

// P7.1: a bad token is told first, wherever it stands, and whatever else is wrong.
func TestBadTokens(t *testing.T) {
	deep := strings.Repeat("(", api.MaxNest+1)
	for _, f := range faces {
		refused(t, f, "1x", 0, api.ErrByte)
		refused(t, f, "end end 1x", 8, api.ErrByte)
		refused(t, f, "val x = \"", 8, api.ErrOpen)
		refused(t, f, "val (* (* *)", 4, api.ErrOpen)
		refused(t, f, "end {\" (*", 4, api.ErrByte)
		refused(t, f, "end \" {", 4, api.ErrOpen)
		refused(t, f, deep+" ' x", len(deep)+1, api.ErrByte)
		refused(t, f, deep+" _x (*", len(deep)+1, api.ErrByte)
		refused(t, f, "\x00", 0, api.ErrByte)
		refused(t, f, "\"a\\q\"", 0, api.ErrOpen)
	}
}

// against holds the place of the first token that can't stand there against that of the grammar.
func against(t *testing.T, g rules, f face, s string) {
	t.Helper()
	at, err := formed(g, f.start, s)
	if err != api.OK {
		refused(t, f, s, at, err)
		return
	}
	b, at, err := f.call(s)
	if at != 0 || err != api.OK || !tree.Right(b) {
		t.Fatalf("%s %.300q: %d %v %s", f.start, s, at, err, draw(b))
	}
}

// P7.1, P7.2: all texts of few tokens that begin as some right one does, and each one more token behind them.
func TestAllShort(t *testing.T) {
	g := readGrammar(grammar)
	kinds := map[string]int{}
	for _, x := range alphabet {
		kinds[x] = lex.Words(x)[0].Kind
	}
	for _, f := range faces {
		c := newChart(g, f.start)
		var tokens []string
		var grow func(left int)
		grow = func(left int) {
			s := strings.Join(tokens, " ")
			if !c.whole(f.start) {
				refused(t, f, s, len(s), api.ErrForm)
			} else if b, at, err := f.call(s); at != 0 || err != api.OK || !tree.Right(b) {
				t.Fatalf("%s %.300q: %d %v %s", f.start, s, at, err, draw(b))
			}
			for _, x := range alphabet {
				switch tokens = append(tokens, x); {
				case !c.take(kinds[x], x):
					bad := strings.Join(tokens, " ")
					refused(t, f, bad, len(bad)-len(x), api.ErrForm)
				default:
					if left > 0 {
						grow(left - 1)
					}
					c.drop()
				}
				tokens = tokens[:len(tokens)-1]
			}
		}
		grow(4)
	}
}

// P7.1, P7.2: whatever token comes next, behind each beginning of texts that are right; and each one token left out.
func TestNextToken(t *testing.T) {
	g := readGrammar(grammar)
	check := func(f face, s string) {
		c := newChart(g, f.start)
		words := lex.Words(s)
		for i, bytes := range lex.Texts(s, words) {
			k := words[i]
			for _, x := range alphabet {
				ahead := s[:k.At] + " "
				if c.take(lex.Words(x)[0].Kind, x) {
					if _, at, err := f.call(ahead + x); err != api.OK && at != len(ahead)+len(x) {
						t.Fatalf("%s %.300q: %d %v", f.start, ahead+x, at, err)
					}
					c.drop()
				} else {
					refused(t, f, ahead+x, len(ahead), api.ErrForm)
				}
			}
			against(t, g, f, s[:k.At])
			against(t, g, f, s[:k.At]+s[k.End:])
			if k.Kind != api.TkEnd && !c.take(k.Kind, bytes) {
				t.Fatalf("%s %.300q: %d", f.start, s, k.At)
			}
		}
	}
	for _, d := range drawn {
		check(faceOf(d.start), d.text)
	}
	for _, f := range faces {
		for seed := range uint64(40) {
			m := newMaker(1000+seed, 8)
			f.make(m)
			check(f, strings.Join(m.tokens, " "))
		}
	}
}

// P7.1, P7.2, P7.3: texts of any size that were made together with their branches.
func TestMade(t *testing.T) {
	for _, f := range faces {
		for seed := range uint64(4000) {
			m := newMaker(seed, int(seed)%200)
			want := f.make(m)
			s := strings.Join(m.tokens, " ")
			taken(t, f, s, want)
			if !tree.Right(want) {
				t.Fatalf("%s: %s", s, draw(want))
			}
		}
	}
}

// P7.1, P7.2: such texts with some tokens changed.
func TestMadeWrong(t *testing.T) {
	g := readGrammar(grammar)
	rng := rand.New(rand.NewPCG(3, 1))
	for _, f := range faces {
		for seed := range uint64(300) {
			m := newMaker(seed, int(seed)%60)
			f.make(m)
			for range 1 + rng.IntN(2) {
				i := rng.IntN(len(m.tokens) + 1)
				j := min(i+rng.IntN(3), len(m.tokens))
				m.tokens = slices.Replace(m.tokens, i, j, alphabet[rng.IntN(len(alphabet))])
			}
			against(t, g, f, strings.Join(m.tokens, " "))
		}
	}
}

// P7.3: the branch has all tokens but the end.
func TestAllTokens(t *testing.T) {
	file := faceOf("file")
	for _, s := range []string{"", ";", "; ;", "val x = 1", ";val x = 1", "val x = (1);", "(* *) open M ; (* *)", "local in end ;"} {
		b, at, err := file.call(s)
		if n := len(lex.Words(s)) - 1; b.From != 0 || b.To != n || at != 0 || err != api.OK {
			t.Fatalf("%q: %s %d %v", s, draw(b), at, err)
		}
	}
	for _, d := range drawn {
		b, _, _ := faceOf(d.start).call(d.text)
		n := len(lex.Words(d.text)) - 1
		for b.From > 0 { // one member alone in ( ) is that part itself
			words := lex.Texts(d.text, lex.Words(d.text))
			if b.From+b.To != n || words[b.From-1] != "(" || words[b.To] != ")" {
				break
			}
			b.From--
			b.To++
		}
		if b.From != 0 || b.To != n || !tree.Right(b) {
			t.Fatalf("%q: %s", d.text, draw(b))
		}
	}
}

// P7.4: blanks and notes, few or many, change nothing of the branch, and a fault stands at the same token.
func TestBlanks(t *testing.T) {
	rng := rand.New(rand.NewPCG(5, 2))
	between := []string{" ", "\n", "\t\r ", "(**)", " (* val ( (* *) \" *) ", "\n\n(*)*)"}
	for _, f := range faces {
		for seed := range uint64(500) {
			m := newMaker(seed, int(seed)%60)
			want := f.make(m)
			if seed%5 == 0 {
				m.put("end")
			}
			var s strings.Builder
			for i, x := range m.tokens {
				if i == 0 || apart(m.tokens[i-1], x) || rng.IntN(2) == 0 {
					for range rng.IntN(3) + min(i, 1) {
						s.WriteString(between[rng.IntN(len(between))])
					}
				}
				s.WriteString(x)
			}
			for range rng.IntN(3) {
				s.WriteString(between[rng.IntN(len(between))])
			}
			if seed%5 == 0 {
				_, at, err := f.call(strings.Join(m.tokens, " "))
				words := lex.Words(s.String())
				refused(t, f, s.String(), words[len(words)-2].At, err)
				if at+len("end") != len(strings.Join(m.tokens, " ")) {
					t.Fatal(s.String(), at)
				}
				continue
			}
			taken(t, f, s.String(), want)
		}
	}
}

// apart says whether two tokens are others, if nothing stands between them.
func apart(a, b string) bool {
	l := lex.Scan(a + b)
	return len(l) != 3 || l[0].End != len(a) || l[0].Kind == api.TkBad || l[1].Kind == api.TkBad
}

// P1: all texts of two bytes, and longer ones of any tokens and bytes, are read, or refused with a place that they have.
func TestAnyBytes(t *testing.T) {
	check := func(s string) {
		for _, f := range faces {
			b, at, err := f.call(s)
			switch firstAt, bad := lex.First(s); {
			case bad != api.OK:
				refused(t, f, s, firstAt, bad)
			case err == api.OK && (at != 0 || !tree.Right(b)):
				t.Fatalf("%s %.300q: %d %s", f.start, s, at, draw(b))
			case err != api.OK && ((err != api.ErrForm && err != api.ErrDeep) || at < 0 || at > len(s) || !empty(b)):
				t.Fatalf("%s %.300q: %d %v %s", f.start, s, at, err, draw(b))
			}
		}
	}
	for a := range 256 {
		check(string([]byte{byte(a)}))
		for b := range 256 {
			check(string([]byte{byte(a), byte(b)}))
		}
	}
	rng := rand.New(rand.NewPCG(9, 9))
	for range 20000 {
		var s strings.Builder
		for range rng.IntN(12) {
			if rng.IntN(60) == 0 {
				s.WriteByte(byte(rng.IntN(256)))
			}
			s.WriteString(alphabet[rng.IntN(len(alphabet))])
			s.WriteString([]string{"", " ", "\n"}[rng.IntN(3)])
		}
		check(s.String())
	}
	for _, x := range alphabet {
		check(strings.Repeat(x+" ", 4000))
		check("x" + strings.Repeat(" "+x+" A", 4000))
		check("structure A = A" + strings.Repeat(" "+x+" A", 4000))
		check("val x = (" + strings.Repeat(" y "+x, 4000))
	}
}

// P2, and what is handed out is the caller's own: what was asked ahead, and what became of the answers, changes nothing.
func TestAgain(t *testing.T) {
	var spoil func(b *api.Branch)
	spoil = func(b *api.Branch) {
		b.Kind, b.Mark, b.From, b.To = -1, -1, -1, -1
		for i := range b.Names {
			b.Names[i] = -1
		}
		for i := range b.Kids {
			spoil(&b.Kids[i])
		}
		b.Names = append(b.Names, -1)
		b.Kids = append(b.Kids, api.Branch{Kind: -1})
	}
	for _, d := range drawn {
		f := faceOf(d.start)
		b, _, _ := f.call(d.text)
		spoil(&b)
		f.call(d.text + " end end")
		f.call(strings.Repeat("(", 2*api.MaxNest))
		f.call("\x00")
		if b, at, err := f.call(d.text); draw(b) != d.want || at != 0 || err != api.OK {
			t.Fatalf("%s %q: %s %d %v", d.start, d.text, draw(b), at, err)
		}
	}
}

// No two lists of one answer share memory: what is put behind one stands in no other one.
func TestOwnMemory(t *testing.T) {
	var grow func(b *api.Branch)
	grow = func(b *api.Branch) {
		_ = append(b.Names, -7)
		_ = append(b.Kids, api.Branch{Kind: api.NdAny, From: -7})
		for i := range b.Kids {
			grow(&b.Kids[i])
		}
	}
	for _, f := range faces {
		for seed := range uint64(200) {
			m := newMaker(seed, 60)
			want := f.make(m)
			b, _, _ := f.call(strings.Join(m.tokens, " "))
			grow(&b)
			if !tree.Same(b, want) {
				t.Fatal(strings.Join(m.tokens, " "))
			}
		}
	}
}
