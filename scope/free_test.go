package scope_test

import (
	"math"
	"slices"
	"strings"
	"testing"

	"thunkmill/api"
	"thunkmill/prim"
	"thunkmill/scope"
	"thunkmill/syntax"
	"thunkmill/testkit"
)

// P10.1: the free names of expressions.
func TestFreeOfExpressions(t *testing.T) {
	for _, r := range []struct{ text, want string }{
		{"x", "x"}, {"1", ""}, {"'x'", ""}, {"\"x\"", ""}, {"X", ""}, {"add", "add"}, {"()", ""}, {"[]", ""}, {"Cons x", "x"}, {"(x)", "x"},
		{"y x", "x y"}, {"x y x", "x y"}, {"b a c b", "a b c"}, {"x x' X _x xY x1", "_x x x' x1 xY"}, {"a _a A b B", "_a a b"}, {"add x (mul y 1)", "add mul x y"},
		{"x + y", "+ x y"}, {"x `f` y", "f x y"}, {"x : y", "x y"}, {"- x", "x"}, {"x - y", "- x y"}, {"x == y && x < z", "&& < == x y z"}, {"(+)", "+"}, {"x `C` y", "x y"},
		{"(x +)", "+ x"}, {"(+ x)", "+ x"}, {"(x `f`)", "f x"}, {"(`f` x)", "f x"}, {"(x :)", "x"}, {"(:+ x)", "x"}, {"(x `C`)", "x"}, {"(`add` 1)", "add"}, {"(`f` f)", "f"}, {"\\ f -> (`f` 1)", ""}, {"\\ f -> (1 `f`) (`f` x)", "x"},
		{"\\ x -> x", ""}, {"\\ x -> y", "y"}, {"(\\ x -> x) x", "x"}, {"\\ x -> f x (y + x)", "+ f y"}, {"\\ x (y, z@u) -> x y z u v", "v"}, {"\\ x -> \\ y -> x y z", "z"}, {"\\ x x -> x y", "y"}, {"\\ add -> add sub", "sub"},
		{"let x = y in x z", "y z"}, {"let x = x in x", ""}, {"let { x = y ; y = x } in z", "z"}, {"let f x = f y x in g", "g y"}, {"let { f 1 = x ; f y = y ; x = 2 } in f", ""}, {"let { f x = 1 ; g = x } in f", "x"}, {"let (x, y) = (y, z) in x", "z"}, {"(let x = 1 in x) x", "x"}, {"let { } in x", "x"}, {"let { x = 1 ; x = 2 } in x y", "y"}, {"let { f 1 = a ; f 1 2 = b } in f", "a b"},
		{"let x = y where { y = z ; w = w } in x w", "w z"}, {"let x | a = b | c = d where { a = e ; d = f } in x", "b c e f"},
		{"if x then y else z", "x y z"}, {"case x of { x -> x y ; z -> w }", "w x y"}, {"case 1 of { x -> x ; y -> x }", "x"}, {"case 1 of { (x, y) | x -> y | z -> w where { w = y ; u = v } }", "v z"}, {"case 1 of { x -> y where { y = x } ; z -> y x }", "x y"},
		{"do { x }", "x"}, {"do { x <- x ; x }", "x"}, {"do { x <- y ; x }", "y"}, {"do { x ; x <- y ; x }", "x y"}, {"do { let { x = x y } ; x }", "y"}, {"do { x ; let { x = 1 } ; x }", "x"}, {"do { (x, y) <- z ; let { z = x } ; u <- z y ; u v }", "v z"}, {"do { x <- 1 ; x <- x y ; x }", "y"}, {"(do { x <- 1 ; x }) x", "x"},
		{"(x, y, z, u)", "u x y z"}, {"[x, y, x]", "x y"}, {"[ x | x <- y ]", "y"}, {"[ x | x <- x ]", "x"}, {"[ x y | x ]", "x y"}, {"[ x y z | x <- a, y <- x b, let { z = z x c } ]", "a b c"}, {"[ x | x, x <- y ]", "x y"}, {"[ [ x y | x <- y ] | y <- x ]", "x"}, {"[ 1 | x <- y ] x", "x y"}, {"[ f | let { f x = x } , x ]", "x"},
	} {
		n := expression(t, r.text)
		checkMayBe(t, n)
		checkNames(t, "Free of "+r.text, scope.Free(n), r.want)
		checkNames(t, "Free of the right side "+r.text, scope.Free(node(api.NdRhs, n)), r.want)
		checkNames(t, "Free of the brackets "+r.text, scope.Free(node(api.NdParen, n)), r.want)
	}
}

// P10.1: the free names of right sides and declarations; their own are not in their own scope.
func TestFreeOfDeclarations(t *testing.T) {
	for _, r := range []struct{ text, want string }{
		{"x = 1", ""}, {"x = y", "y"}, {"x = x", "x"}, {"(x, y) = x z", "x z"}, {"x@(y : z) = z u", "u z"}, {"x = y where { y = x }", "x"}, {"x | a = b where { a = x ; c = d }", "b d x"},
		{"f x = x", ""}, {"f x = y", "y"}, {"f x = f x", "f"}, {"f f = f", ""}, {"f x y = x (\\ z -> f z y)", "f"}, {"x + y = x + y", "+"}, {"x `f` y = f", "f"}, {"f x | x = y | g = f where { g = x h }", "f h y"}, {"f x = f where { f = x }", ""}, {"f (x, y@z) [u, ~v] = x y z u v w", "w"},
		{"data T = A x y | B", ""}, {"infixl 3 +, `f`", ""}, {"f x x = y", "y"},
	} {
		p := parsed(t, r.text)
		checkMayBe(t, p)
		checkNames(t, "Free of "+r.text, scope.Free(p.Kids[0]), r.want)
		inner := parsed(t, "q = let { "+r.text+" } in 1").Kids[0].Kids[1].Kids[0].Kids[0].Kids[0]
		checkNames(t, "Free of the inner "+r.text, scope.Free(inner), r.want)
	}
	// Its patterns are not of an NdRhs.
	rhs := parsed(t, "f x | x = y | a = b where { y = x ; b = f }").Kids[0].Kids[1]
	checkNames(t, "Free of a right side", scope.Free(rhs), "a f x")
}

// P10.1: operators of rows are not asked for.
func TestFreeOfRows(t *testing.T) {
	for _, r := range []struct{ text, want string }{{"x + y", "x y"}, {"x `f` y + z", "x y z"}, {"\\ (x : y) -> x + y + z", "z"}, {"(+ 1) + f", "+ f"}, {"- x + 1", "x"}} {
		p := rows(t, "q = "+r.text)
		checkNames(t, "Free of the rows "+r.text, scope.Free(p.Kids[0]), r.want)
		checkNames(t, "Free of the rows' right side "+r.text, scope.Free(p.Kids[0].Kids[1]), r.want)
	}
	checkNames(t, "Free of the rows x :+ y = 1", scope.Free(rows(t, "x :+ y = x").Kids[0]), "x")
}

// P10.1: primitives are free, as others are, in rising order.
func TestFreePrimitives(t *testing.T) {
	l := prim.Names()
	slices.Reverse(l)
	checkNames(t, "Free", scope.Free(expression(t, "["+strings.Join(l, ", ")+", zoe, aaa]")), "aaa "+strings.Join(prim.Names(), " ")+" zoe")
	for _, p := range l {
		checkNames(t, "Free", scope.Free(expression(t, "\\ "+p+" -> "+p)), "")
	}
}

// P10.1: of other kinds of nodes nothing is free, and of what may not be neither.
func TestFreeOfOthers(t *testing.T) {
	with := expression(t, "case x of { y | z -> u where { v = w } }")
	alt := with.Kids[1]
	do, comp := expression(t, "do { x <- y ; let { z = u } ; v }"), expression(t, "[ x | y <- z ]")
	for _, n := range []api.Node{alt, alt.Kids[0], alt.Kids[1].Kids[0], alt.Kids[1].Kids[1], do.Kids[0], do.Kids[1], do.Kids[1].Kids[0], do.Kids[2], comp.Kids[1], parsed(t, "f = x"), node(api.NdProgram), named(api.NdOp, "f"), named(api.NdConDef, "A"), named(api.NdPVar, "x"), named(api.NdPAs, "x", named(api.NdPVar, "y"))} {
		checkMayBe(t, n)
		checkNames(t, "Free of another node", scope.Free(n), "")
	}
	x := variable("x")
	for _, n := range []api.Node{{}, {Kind: -1, Kids: []api.Node{x}}, {Kind: 45}, {Kind: math.MaxInt}, {Kind: math.MinInt}, variable("X"), variable(""), variable("let"), {Kind: api.NdVar, Name: "x", Num: 1}, node(api.NdApp, x), node(api.NdApp), node(api.NdTuple, x), node(api.NdLam, x), node(api.NdLet, x), node(api.NdLet, x, x), node(api.NdComp), node(api.NdComp, x), node(api.NdDo), node(api.NdDo, x), node(api.NdRhs), node(api.NdRhs, x, x), node(api.NdEqn), named(api.NdEqn, "f", x), node(api.NdBind), node(api.NdBind, x, x), node(api.NdGen), named(api.NdLeft, "", x), named(api.NdLeft, "+"), named(api.NdRight, "1", x), node(api.NdList, x, api.Node{})} {
		if syntax.Check(n) != api.ErrArg {
			t.Errorf("syntax has no error of %v", n)
		}
		checkNames(t, "Free of what may not be", scope.Free(n), "")
	}
	deep := func(times int) api.Node {
		n := x
		for range times {
			n = node(api.NdParen, n)
		}
		return n
	}
	checkNames(t, "Free of a deep node", scope.Free(deep(255)), "x")
	checkNames(t, "Free of one too deep", scope.Free(deep(256)), "")
	checkNames(t, "Free of one too deep", scope.Free(deep(1<<15)), "")
	checkNames(t, "Free of one too wide", scope.Free(node(api.NdList, slices.Repeat([]api.Node{x}, 1<<20)...)), "")
	checkNames(t, "Free of a wide one", scope.Free(node(api.NdList, slices.Repeat([]api.Node{x}, 1<<20-1)...)), "x")
}

// P10.1: each kind of node in turn, by chance: only those that may have free names have some.
func TestFreeOfEachKind(t *testing.T) {
	trees := testkit.Trees{Chance: seeded(5)}
	some := map[int]int{}
	for range 200 {
		for kind := 0; kind <= api.NdPOps+1; kind++ {
			if len(scope.Free(trees.Tree(kind, 4))) > 0 {
				some[kind]++
			}
		}
	}
	for kind := range api.NdPOps + 2 {
		may := slices.Contains(testkit.Expressions(), kind) || kind == api.NdEqn || kind == api.NdBind || kind == api.NdRhs
		none := slices.Contains([]int{api.NdCon, api.NdInt, api.NdChar, api.NdString}, kind)
		if (some[kind] > 0) != (may && !none) {
			t.Errorf("%d nodes of the kind %d have free names", some[kind], kind)
		}
	}
}
