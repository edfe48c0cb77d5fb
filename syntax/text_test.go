package syntax_test

import (
	"math"
	"slices"
	"strconv"
	"strings"
	"testing"

	"thunkmill/api"
	"thunkmill/lex"
	"thunkmill/syntax"
	"thunkmill/testkit"
)

// checkText holds a node to its text, its text to its lexemes, and these to what lex reads.
func checkText(t *testing.T, n api.Node, want string) {
	t.Helper()
	text, e := syntax.Text(n)
	if text != want || e != api.OK {
		t.Errorf("Text = %q, %v, want %q", text, e, want)
	}
	l, e := syntax.Lexemes(n)
	if lex.Join(l) != want || e != api.OK {
		t.Errorf("Lexemes joined = %q, %v, want %q", lex.Join(l), e, want)
	}
	read, f := lex.All(want)
	for i := range read {
		read[i] = api.Token{Kind: read[i].Kind, Text: read[i].Text, Num: read[i].Num}
	}
	if f != (api.Fault{}) || !slices.Equal(l, read) {
		t.Errorf("Lexemes = %v, read from the text: %v, %v", l, read, f)
	}
}

func TestExamplesOfTheChapter(t *testing.T) {
	checkText(t, app(v("f"), app(v("g"), num(1))), "f ( g 1 )")
	checkText(t, of(api.NdProgram, named(api.NdEqn, "f", pv("x"), rhs(v("x")))), "{ f x = x ; }")
	checkText(t, of(api.NdLam, pv("x"), ops(v("x"), op("+"), num(1))), `\ x -> x + 1`)
}

func TestTextOfEachKind(t *testing.T) {
	for _, s := range samples() {
		checkText(t, s.node, s.text)
		checkText(t, testkit.Placed(s.node), s.text)
	}
}

func TestTextOfDeclarations(t *testing.T) {
	x, p := v("x"), pv("p")
	rows := []sample{
		{of(api.NdProgram), "{ }"},
		{where(), "{ }"},
		{of(api.NdProgram, named(api.NdData, "T", conDef("C", 0)), fixity("infix", 0, op("==")), bind("x", num(1))), "{ data T = C ; infix 0 == ; x = 1 ; }"},
		{named(api.NdData, "T", conDef("A", 0), conDef("B", 1), conDef("C", 3)), "data T = A | B a | C a a a"},
		{conDef("C", 0), "C"},
		{conDef("C", 32), "C" + strings.Repeat(" a", 32)},
		{fixity("infixr", 0, op("$")), "infixr 0 $"},
		{fixity("infix", 9, op("=="), op(":="), op("f"), op("C")), "infix 9 == , := , ` f ` , ` C `"},
		{op(":+"), ":+"},
		{op("f"), "` f `"},
		{op("C"), "` C `"},
		{named(api.NdEqn, "+", p, pv("q"), rhs(x)), "( + ) p q = x"},
		{named(api.NdEqn, "-", p, rhs(x)), "( - ) p = x"},
		{of(api.NdBind, of(api.NdPTuple, p, pv("q")), rhs(x)), "( p , q ) = x"},
		{rhs(x), "= x"},
		{rhs(x, where()), "= x where { }"},
		{rhs(guard(v("c"), x)), "| c = x"},
		{rhs(guard(v("c"), x), guard(v("d"), num(1)), where(bind("x", num(2)))), "| c = x | d = 1 where { x = 2 ; }"},
		{named(api.NdEqn, "f", p, rhs(guard(v("c"), x), where(named(api.NdEqn, "g", p, rhs(x, where()))))), "f p | c = x where { g p = x where { } ; }"},
		// An alternative's right side has its own sign, down to its guards, and no further.
		{of(api.NdAlt, p, rhs(guard(v("c"), x), guard(v("d"), num(1)), where(bind("x", num(2))))), "p | c -> x | d -> 1 where { x = 2 ; }"},
		{of(api.NdAlt, p, rhs(of(api.NdLet, where(of(api.NdBind, pv("q"), rhs(guard(v("c"), x)))), x))), "p -> let { q | c = x ; } in x"},
		{of(api.NdBind, p, rhs(of(api.NdCase, x, alt(of(api.NdPAny), num(1))))), "p = case x of { _ -> 1 ; }"},
	}
	for _, r := range rows {
		checkText(t, r.node, r.text)
	}
}

func TestTextOfExpressions(t *testing.T) {
	x, y := v("x"), v("y")
	neg := of(api.NdNeg, x)
	rows := []sample{
		{v("+"), "( + )"},
		{v("-"), "( - )"},
		{v("_x'"), "_x'"},
		{con(":"), "( : )"},
		{con("C"), "C"},
		{app(v("+"), con(":"), con("C")), "( + ) ( : ) C"},
		{num(0), "0"},
		{num(math.MaxInt64), "9223372036854775807"},
		{counted(api.NdChar, 0), `'\0'`},
		{counted(api.NdChar, '\''), `'\''`},
		{counted(api.NdChar, '"'), `'"'`},
		{counted(api.NdChar, 255), `'\255'`},
		{named(api.NdString, ""), `""`},
		{named(api.NdString, "let"), `"let"`},
		{named(api.NdString, "a\n1\"\\'\xff"), `"a\10\&1\"\\'\255\&"`},
		{app(x, y, num(1), num(2)), "x y 1 2"},
		{ops(x, op("f"), y, op("C"), num(1), op(":"), num(2)), "x ` f ` y ` C ` 1 : 2"},
		{ops(neg, op("-"), neg), "( - x ) - ( - x )"},
		{of(api.NdNeg, neg), "- ( - x )"},
		{of(api.NdLam, pv("x"), of(api.NdPAny), of(api.NdPLazy, pv("y")), of(api.NdLam, pv("z"), x)), `\ x _ ~ y -> \ z -> x`},
		{of(api.NdLet, where(), x), "let { } in x"},
		{of(api.NdLet, where(bind("x", y), bind("y", x)), of(api.NdLet, where(), x)), "let { x = y ; y = x ; } in let { } in x"},
		{of(api.NdIf, neg, app(x, y), of(api.NdIf, x, y, x)), "if - x then x y else if x then y else x"},
		{of(api.NdCase, of(api.NdCase, x, alt(pv("a"), y)), alt(pv("b"), x)), "case case x of { a -> y ; } of { b -> x ; }"},
		{of(api.NdDo, stmt(of(api.NdDo, stmt(x)))), "do { do { x ; } ; }"},
		{of(api.NdTuple, x, neg, app(x, y), of(api.NdLam, pv("x"), x)), `( x , - x , x y , \ x -> x )`},
		{of(api.NdTuple, x, y, num(1)), "( x , y , 1 )"},
		{of(api.NdList), "[ ]"},
		{of(api.NdList, app(x, y)), "[ x y ]"},
		{of(api.NdComp, app(x, y), stmt(app(x, y))), "[ x y | x y ]"},
		{named(api.NdLeft, "f", app(x, y)), "( ( x y ) ` f ` )"},
		{named(api.NdRight, "f", app(x, y)), "( ` f ` ( x y ) )"},
		{named(api.NdLeft, ":", x), "( x : )"},
		{named(api.NdRight, "C", x), "( ` C ` x )"},
		{named(api.NdRight, "-", x), "( - x )"},
		{paren(paren(app(x, y))), "( ( x y ) )"},
		{app(paren(x), paren(app(x, y))), "( x ) ( x y )"},
	}
	for _, r := range rows {
		checkText(t, r.node, r.text)
	}
}

func TestTextOfPatterns(t *testing.T) {
	p, q := pv("p"), pv("q")
	rows := []sample{
		{counted(api.NdPChar, 10), `'\10'`},
		{counted(api.NdPInt, 0), "0"},
		{named(api.NdPString, "\x00"), `"\0\&"`},
		{pcon("C"), "C"},
		{pcon(":", p, q), "( : ) p q"},
		{pcon("C", pcon("D"), pcon("D", p), pcon(":", p, q)), "C D ( D p ) ( ( : ) p q )"},
		{of(api.NdPTuple, pcon("C", p), q, of(api.NdPAny)), "( C p , q , _ )"},
		{of(api.NdPList), "[ ]"},
		{of(api.NdPList, pcon("C", p), of(api.NdPOps, p, op(":"), q)), "[ C p , p : q ]"},
		{named(api.NdPAs, "x", named(api.NdPAs, "y", pcon("C", p))), "x @ y @ ( C p )"},
		{of(api.NdPLazy, of(api.NdPLazy, of(api.NdPOps, p, op("C"), q))), "~ ~ ( p ` C ` q )"},
		{of(api.NdPOps, pcon("C", p), op(":+"), pcon("C"), op("f"), of(api.NdPOps, p, op(":"), q)), "( C p ) :+ C ` f ` ( p : q )"},
		{gen(pcon("C", p), app(v("f"), v("x"))), "C p <- f x"},
	}
	for _, r := range rows {
		checkText(t, r.node, r.text)
	}
}

// hole is a node with room for another one, and its text around that one's.
type hole struct {
	node       func(n api.Node) api.Node
	head, tail string
}

func checkHoles(t *testing.T, l []hole, kinds []int, atoms func(n api.Node) bool) {
	t.Helper()
	more := []api.Node{pcon("C"), v("+"), con(":"), con("Unit"), of(api.NdList), of(api.NdPList)}
	for _, k := range kinds {
		more = append(more, ofKind(k))
	}
	for _, n := range more {
		if !slices.Contains(kinds, n.Kind) {
			continue
		}
		text, _ := syntax.Text(n)
		if !atoms(n) {
			text = "( " + text + " )"
		}
		for _, h := range l {
			checkText(t, h.node(n), strings.TrimSpace(h.head+" "+text+" "+h.tail))
		}
	}
}

// atomic tells what the chapter calls an atom, by the numbers that it names.
func atomic(n api.Node) bool {
	k := n.Kind
	return 11 <= k && k <= 15 || 25 <= k && k <= 30 || 34 <= k && k <= 38 || 40 <= k && k <= 43 || k == 39 && len(n.Kids) == 0
}

func always(api.Node) bool { return true }

func TestAtomsWhereTheyAreAskedFor(t *testing.T) {
	f, x, p := v("f"), v("x"), pv("p")
	checkHoles(t, []hole{
		{func(n api.Node) api.Node { return app(n, x) }, "", "x"},
		{func(n api.Node) api.Node { return app(f, n) }, "f", ""},
		{func(n api.Node) api.Node { return app(f, x, n, x) }, "f x", "x"},
		{func(n api.Node) api.Node { return ops(n, op("+"), x) }, "", "+ x"},
		{func(n api.Node) api.Node { return ops(x, op("+"), n) }, "x +", ""},
		{func(n api.Node) api.Node { return ops(x, op("+"), n, op("f"), x) }, "x +", "` f ` x"},
		{func(n api.Node) api.Node { return of(api.NdNeg, n) }, "-", ""},
		{func(n api.Node) api.Node { return named(api.NdLeft, "+", n) }, "(", "+ )"},
		{func(n api.Node) api.Node { return named(api.NdRight, "+", n) }, "( +", ")"},
	}, testkit.Expressions(), atomic)
	checkHoles(t, []hole{
		{func(n api.Node) api.Node { return named(api.NdEqn, "f", n, rhs(x)) }, "f", "= x"},
		{func(n api.Node) api.Node { return named(api.NdEqn, "f", p, n, p, rhs(x)) }, "f p", "p = x"},
		{func(n api.Node) api.Node { return named(api.NdEqn, "+", p, n, rhs(x)) }, "( + ) p", "= x"},
		{func(n api.Node) api.Node { return of(api.NdLam, n, x) }, `\`, "-> x"},
		{func(n api.Node) api.Node { return of(api.NdLam, p, n, x) }, `\ p`, "-> x"},
		{func(n api.Node) api.Node { return pcon("C", n) }, "C", ""},
		{func(n api.Node) api.Node { return pcon("C", p, n, p) }, "C p", "p"},
		{func(n api.Node) api.Node { return pcon(":", n, p) }, "( : )", "p"},
		{func(n api.Node) api.Node { return named(api.NdPAs, "x", n) }, "x @", ""},
		{func(n api.Node) api.Node { return of(api.NdPLazy, n) }, "~", ""},
		{func(n api.Node) api.Node { return of(api.NdPOps, n, op(":"), p) }, "", ": p"},
		{func(n api.Node) api.Node { return of(api.NdPOps, p, op(":"), n) }, "p :", ""},
	}, testkit.Patterns(), atomic)
}

func TestNoParenthesesWhereNoAtomIsAskedFor(t *testing.T) {
	x, p := v("x"), pv("p")
	checkHoles(t, []hole{
		{func(n api.Node) api.Node { return rhs(n) }, "=", ""},
		{func(n api.Node) api.Node { return rhs(n, where()) }, "=", "where { }"},
		{func(n api.Node) api.Node { return guard(n, x) }, "|", "= x"},
		{func(n api.Node) api.Node { return guard(x, n) }, "| x =", ""},
		{func(n api.Node) api.Node { return alt(p, n) }, "p ->", ""},
		{func(n api.Node) api.Node { return of(api.NdLam, p, n) }, `\ p ->`, ""},
		{func(n api.Node) api.Node { return of(api.NdLet, where(), n) }, "let { } in", ""},
		{func(n api.Node) api.Node { return of(api.NdIf, n, x, x) }, "if", "then x else x"},
		{func(n api.Node) api.Node { return of(api.NdIf, x, n, x) }, "if x then", "else x"},
		{func(n api.Node) api.Node { return of(api.NdIf, x, x, n) }, "if x then x else", ""},
		{func(n api.Node) api.Node { return of(api.NdCase, n, alt(p, x)) }, "case", "of { p -> x ; }"},
		{func(n api.Node) api.Node { return of(api.NdTuple, n, x) }, "(", ", x )"},
		{func(n api.Node) api.Node { return of(api.NdTuple, x, n) }, "( x ,", ")"},
		{func(n api.Node) api.Node { return of(api.NdList, n) }, "[", "]"},
		{func(n api.Node) api.Node { return of(api.NdComp, n, stmt(x)) }, "[", "| x ]"},
		{func(n api.Node) api.Node { return of(api.NdComp, x, stmt(n)) }, "[ x |", "]"},
		{func(n api.Node) api.Node { return paren(n) }, "(", ")"},
		{func(n api.Node) api.Node { return gen(p, n) }, "p <-", ""},
		{func(n api.Node) api.Node { return of(api.NdDo, stmt(n)) }, "do {", "; }"},
	}, testkit.Expressions(), always)
	checkHoles(t, []hole{
		{func(n api.Node) api.Node { return of(api.NdBind, n, rhs(x)) }, "", "= x"},
		{func(n api.Node) api.Node { return of(api.NdAlt, n, rhs(x)) }, "", "-> x"},
		{func(n api.Node) api.Node { return gen(n, x) }, "", "<- x"},
		{func(n api.Node) api.Node { return of(api.NdPTuple, n, p) }, "(", ", p )"},
		{func(n api.Node) api.Node { return of(api.NdPList, p, n) }, "[ p ,", "]"},
	}, testkit.Patterns(), always)
}

// checkRefused holds a node to an error, with which there is nothing else.
func checkRefused(t *testing.T, which int, n api.Node, want api.Errno) {
	t.Helper()
	if e := syntax.Check(n); e != want {
		t.Errorf("node %d: Check = %v, want %v", which, e, want)
	}
	if l, e := syntax.Lexemes(n); len(l) != 0 || e != want {
		t.Errorf("node %d: Lexemes = %v, %v, want %v", which, l, e, want)
	}
	if s, e := syntax.Text(n); s != "" || e != want {
		t.Errorf("node %d: Text = %q, %v, want %v", which, s, e, want)
	}
}

func TestTextOfNodesThatMayNotBe(t *testing.T) {
	wrong := []api.Node{{}, of(45), v("let"), app(v("f")), paren(), paren(v("x"), v("y")), of(api.NdDo), rhs(), of(api.NdRhs, where()), pcon(":"), counted(api.NdChar, 256), of(api.NdProgram, bind("x", v("="))), named(api.NdVar, "x", v("y"))}
	long := []api.Node{nested(api.MaxDeep + 1), wide(api.MaxNodes + 1), endless(0), endless(api.NdParen), shared(200), of(0, nested(api.MaxDeep))}
	for i, n := range slices.Concat(wrong, long) {
		want := api.ErrArg
		if i >= len(wrong) {
			want = api.ErrLong
		}
		checkRefused(t, i, n, want)
	}
}

func TestTextOfDeepAndWideNodes(t *testing.T) {
	want := strings.Repeat("( ", api.MaxDeep-1) + "x" + strings.Repeat(" )", api.MaxDeep-1)
	checkText(t, nested(api.MaxDeep), want)
	n := v("x")
	for range api.MaxDeep - 1 {
		n = of(api.NdNeg, n)
	}
	checkText(t, n, strings.Repeat("- ( ", api.MaxDeep-2)+"- x"+strings.Repeat(" )", api.MaxDeep-2))
	l, e := syntax.Lexemes(wide(api.MaxNodes))
	if len(l) != 2*api.MaxNodes-1 || e != api.OK {
		t.Errorf("2^20 nodes: %d lexemes, %v", len(l), e)
	}
	text, e := syntax.Text(wide(api.MaxNodes))
	if text != "[ x"+strings.Repeat(" , x", api.MaxNodes-2)+" ]" || e != api.OK {
		t.Errorf("2^20 nodes: a text of %d bytes, %v", len(text), e)
	}
}

// A number below 0 is no lexeme's: a node that has one, wherever it stands, has neither lexemes nor a text.
func TestTextOfNumbersBelowZero(t *testing.T) {
	x, p := v("x"), pv("p")
	for _, k := range []int64{-1, -5, math.MinInt64} {
		e, q := num(k), counted(api.NdPInt, k)
		for i, n := range []api.Node{
			e, q, app(x, e), ops(x, op("-"), e), of(api.NdNeg, e), paren(e), rhs(e), rhs(guard(e, x)), bind("x", e),
			of(api.NdLam, q, x), of(api.NdPList, p, q), of(api.NdPOps, q, op(":"), p), alt(q, x), gen(q, x),
			of(api.NdProgram, named(api.NdEqn, "f", q, rhs(e))),
		} {
			checkRefused(t, i, n, api.ErrArg)
		}
	}
}

// The numbers at the edges are told as lex reads them.
func TestTextOfNumbersAtTheEdges(t *testing.T) {
	for _, k := range []int64{0, 1, math.MaxInt64 - 1, math.MaxInt64} {
		want := strconv.FormatInt(k, 10)
		e, q := num(k), counted(api.NdPInt, k)
		checkText(t, e, want)
		checkText(t, q, want)
		checkText(t, of(api.NdNeg, e), "- "+want)
		checkText(t, of(api.NdProgram, named(api.NdEqn, "f", q, rhs(e))), "{ f "+want+" = "+want+" ; }")
	}
}
