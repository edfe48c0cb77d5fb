package match_test

import (
	"strings"
	"testing"

	"thunkmill/api"
	"thunkmill/match"
	"thunkmill/syntax"
	"thunkmill/testkit"
)

// lazily is a pattern with so many ~ ahead.
func lazily(times int, p api.Node) api.Node {
	for range times {
		p = node(api.NdPLazy, p)
	}
	return p
}

// P12.1: what syntax says of a node.
func TestNodesThatMayNotBe(t *testing.T) {
	checkPatternError(t, "MaxDeep", lazily(api.MaxDeep-1, anything()), api.OK)
	checkPatternError(t, "deeper", lazily(api.MaxDeep, anything()), api.ErrLong)
	checkPatternError(t, "MaxNodes", node(api.NdPList, many(api.MaxNodes-1, anything())...), api.OK)
	checkPatternError(t, "more nodes", node(api.NdPList, many(api.MaxNodes, anything())...), api.ErrLong)
	for what, p := range map[string]api.Node{
		"nothing": {}, "no kind": {Kind: 45}, "a kind below 0": {Kind: -1}, "a name that is none": named(api.NdPVar, "X"), "an operator": named(api.NdPVar, "+"), "%no": named(api.NdPVar, "%no"),
		"a number below 0": {Kind: api.NdPInt, Num: -1}, "a great character": {Kind: api.NdPChar, Num: 256}, "one of a tuple": node(api.NdPTuple, anything()), "five of a tuple": node(api.NdPTuple, many(5, anything())...),
		"an expression in a pattern": node(api.NdPList, named(api.NdVar, "x")), "~ of nothing": node(api.NdPLazy), "@ of nothing": named(api.NdPAs, "x"), "a small constructor": named(api.NdPCon, "b"), "an operator of one part": named(api.NdPCon, ":", anything()),
		"wrong far in": lazily(200, node(api.NdPList, anything(), api.Node{Kind: api.NdPAny, Num: 1})),
	} {
		if e := syntax.Check(p); e != api.ErrArg {
			t.Fatalf("%s: syntax says %v", what, e)
		}
		checkPatternError(t, what, p, api.ErrArg)
	}
	p := node(api.NdPList)
	p.Kids = []api.Node{p, p}
	p.Kids[0].Kids, p.Kids[1].Kids = p.Kids, p.Kids
	checkPatternError(t, "a list that is its own part", p, api.ErrLong)
}

// P12.1: nodes that may be, but are no patterns.
func TestNoPatterns(t *testing.T) {
	trees := testkit.Trees{Chance: seeded(1)}
	for kind := api.NdProgram; kind <= api.NdStmt; kind++ {
		for range 5 {
			n := trees.Tree(kind, 3)
			if e := syntax.Check(n); e != api.OK {
				t.Fatalf("kind %d: syntax says %v", kind, e)
			}
			checkPatternError(t, "no pattern", n, api.ErrArg)
		}
	}
}

// P12.1: operators that are not in order, wherever they stand; even where all else is right.
func TestOperatorsInRows(t *testing.T) {
	ops := node(api.NdPOps, anything(), named(api.NdOp, ":"), anything())
	for what, p := range map[string]api.Node{
		"alone": ops, "in ~": lazily(3, ops), "in @": named(api.NdPAs, "x", ops), "in a constructor": named(api.NdPCon, "C", anything(), anything(), ops), "in a tuple": node(api.NdPTuple, ops, anything()),
		"in a list": node(api.NdPList, anything(), ops), "in one another": node(api.NdPOps, ops, named(api.NdOp, ":"), ops), "behind what is ErrScope": node(api.NdPTuple, named(api.NdPCon, "Zoe"), ops), "behind what is ErrShape": node(api.NdPTuple, named(api.NdPCon, "B"), ops),
	} {
		if e := syntax.Check(p); e != api.OK {
			t.Fatalf("%s: syntax says %v", what, e)
		}
		checkPatternError(t, what, p, api.ErrArg)
	}
}

// P12.1: the variable v is a name of the core's.
func TestVariableIsAName(t *testing.T) {
	long := strings.Repeat("v", api.MaxSource)
	for _, v := range []string{"v", "V", "!", "~", "%no", "1", "'", "let", long} {
		got, e := match.Pattern(cons(), pattern(t, "1"), v, variable("ok"), variable("no"))
		checkError(t, "v "+v[:1], got, e, api.OK)
		if len(got.Args) != 1 || got.Args[0].Name != v {
			t.Errorf("%q is not asked", v[:1])
		}
	}
	for _, v := range []string{"", " ", "a b", "a\n", "\x7f", "\x00", "\xff", "ä", long + "v"} {
		got, e := match.Pattern(cons(), pattern(t, "1"), v, variable("ok"), variable("no"))
		checkError(t, "no name", got, e, api.ErrArg)
		got, e = match.Pattern(cons(), pattern(t, "1"), "v", variable("ok"), variable(v))
		checkError(t, "no that is no name", got, e, api.ErrArg)
	}
}

// P12.1: no is a variable, or the same as the failure.
func TestWhatNoMayBe(t *testing.T) {
	for _, no := range []string{"no", "w", "ok", "%no", "error", "failure"} {
		got, e := match.Pattern(cons(), pattern(t, "1"), "w", variable("ok"), expr(t, no))
		checkSame(t, "no "+no, got, e, expr(t, "(case w of 1 -> ok; _ -> "+no+")"))
	}
	wrong := []api.Expr{{}, {Kind: 77}, {Kind: api.ExVar}, {Kind: api.ExVar, Name: "no", Num: 1}, {Kind: api.ExVar, Name: "no", Args: many(1, number(1))}, {Kind: api.ExVar, Name: "no", Params: []string{"x"}}, {Kind: api.ExVar, Name: "no", Args: many(api.MaxNodes, number(1))}}
	for _, text := range []string{"1", "'110'", "(Nil)", "(#error (Nil))", "(f x)", "(\\ x -> x)", "(let x = failure in x)", "(let x = failure in failure)", "(#error (Cons '110' (Nil)))", "(#show failure)", "(case failure of x -> x)"} {
		wrong = append(wrong, expr(t, text))
	}
	changed := failure()
	changed.Args[0].Args[1].Args[1].Args[0].Num = 33
	more := failure()
	more.Args = append(more.Args, number(1))
	wrong = append(wrong, changed, more)
	for i, no := range wrong {
		got, e := match.Pattern(cons(), pattern(t, "1"), "w", variable("ok"), no)
		if e != api.ErrArg || got.Kind != 0 {
			t.Errorf("no %d: %v", i, e)
		}
	}
}

// P12.1: neither v nor the variable no is a name of p.
func TestNamesOfThePattern(t *testing.T) {
	for p, want := range map[string]api.Errno{
		"w": api.ErrArg, "no": api.ErrArg, "w@1": api.ErrArg, "no@_": api.ErrArg, "~w": api.ErrArg, "~(B no)": api.ErrArg, "[x, y, (z, w)]": api.ErrArg, "x@(y : no : z)": api.ErrArg,
		"ok": api.OK, "ww": api.OK, "n": api.OK, `"w"`: api.OK, `"no"`: api.OK, "x@y": api.OK,
	} {
		checkPatternError(t, p, pattern(t, p), want)
	}
	for _, name := range []string{"no", "match", "error", "failure"} {
		got, e := match.Pattern(cons(), pattern(t, name), "w", variable("ok"), match.Failure())
		checkError(t, name, got, e, api.OK)
	}
	got, e := match.Pattern(cons(), pattern(t, "x"), "no", variable("ok"), variable("no"))
	checkError(t, "v being no", got, e, api.OK)
}

// P12.1: ErrScope and ErrShape.
func TestScopeAndShape(t *testing.T) {
	for p, want := range map[string]api.Errno{
		"(x, x)": api.ErrScope, "x@x": api.ErrScope, "x@(B x)": api.ErrScope, "[x, y, ~x]": api.ErrScope, "~(x, ~x)": api.ErrScope, "C x y (C z u (C a b x))": api.ErrScope, "_ : x : _ : x": api.ErrScope, "x@(~x)": api.ErrScope,
		"Zoe": api.ErrScope, "Zoe x": api.ErrScope, "(x, [Zoe])": api.ErrScope, "~Zoe": api.ErrScope, "x@(B (Zoe y))": api.ErrScope, "x :- y": api.ErrScope, "Tup5 a b c d e": api.ErrScope, "Tup1 x": api.ErrScope,
		"A x": api.ErrShape, "B": api.ErrShape, "B x y": api.ErrShape, "C x y": api.ErrShape, "C x y z u": api.ErrShape, "Nil x": api.ErrShape, "Cons x": api.ErrShape, "Cons": api.ErrShape, "Tup2 x": api.ErrShape, "Tup2 x y z": api.ErrShape, "Unit x": api.ErrShape, "[B]": api.ErrShape, "~B": api.ErrShape, "x@B": api.ErrShape,
		"(B, Zoe)": api.ErrScope, "(Zoe, B)": api.ErrScope, "(B, (x, x))": api.ErrScope, "B Zoe y": api.ErrScope, "Zoe B": api.ErrScope,
		"(_, _)": api.OK, "(A, A)": api.OK, "(x, y)": api.OK,
	} {
		checkPatternError(t, p, pattern(t, p), want)
	}
}

// P12.1: of two errors the one that the chapter names first.
func TestOrderOfErrors(t *testing.T) {
	wrongArg, wrongLong := api.Expr{}, chain(api.MaxNest+1, variable("x"))
	both := chain(api.MaxNest+1, api.Expr{})
	deep, twice, scope, shape, fine := lazily(api.MaxDeep, anything()), pattern(t, "(x, x)"), pattern(t, "Zoe"), pattern(t, "B"), pattern(t, "x")
	bad, ops := named(api.NdPVar, "X"), node(api.NdPOps, anything(), named(api.NdOp, ":"), anything())
	ok := variable("ok")
	for i, x := range []struct {
		p    api.Node
		v    string
		ok   api.Expr
		want api.Errno
	}{
		{deep, "", wrongArg, api.ErrLong}, {deep, "w", both, api.ErrLong}, {bad, "w", wrongLong, api.ErrArg}, {bad, "", wrongArg, api.ErrArg},
		{ops, "w", wrongLong, api.ErrArg}, {node(api.NdPTuple, ops, scope), "w", ok, api.ErrArg}, {named(api.NdVar, "x"), "w", wrongLong, api.ErrArg},
		{twice, "", ok, api.ErrArg}, {scope, "", ok, api.ErrArg}, {shape, "", ok, api.ErrArg}, {fine, "", wrongLong, api.ErrArg}, {twice, "x", ok, api.ErrArg}, {fine, "x", wrongLong, api.ErrArg},
		{twice, "w", wrongArg, api.ErrArg}, {scope, "w", wrongArg, api.ErrArg}, {shape, "w", wrongArg, api.ErrArg}, {fine, "w", both, api.ErrArg}, {shape, "w", both, api.ErrArg},
		{twice, "w", wrongLong, api.ErrScope}, {scope, "w", wrongLong, api.ErrScope}, {node(api.NdPTuple, shape, scope), "w", wrongLong, api.ErrScope}, {node(api.NdPTuple, shape, twice), "w", ok, api.ErrScope},
		{shape, "w", wrongLong, api.ErrShape}, {fine, "w", wrongLong, api.ErrLong}, {fine, "w", ok, api.OK},
	} {
		got, e := match.Pattern(cons(), x.p, x.v, x.ok, variable("no"))
		if e != x.want {
			t.Errorf("case %d: %v, want %v", i, e, x.want)
		}
		checkError(t, "order", got, e, x.want)
	}
	got, e := match.Pattern(cons(), scope, "w", wrongLong, number(1))
	checkError(t, "no is ahead of ErrScope", got, e, api.ErrArg)
	got, e = match.Pattern(cons(), deep, "w", wrongLong, number(1))
	checkError(t, "no is behind what syntax says", got, e, api.ErrLong)
}
