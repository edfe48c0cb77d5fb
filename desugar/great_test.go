package desugar_test

import (
	"runtime"
	"runtime/debug"
	"slices"
	"strings"
	"testing"

	"thunkmill/api"
	"thunkmill/core"
	"thunkmill/desugar"
	"thunkmill/testkit"
)

// filler is a node that comes to just so many expressions, not nested deep.
func filler(n int) api.Node {
	switch {
	case n <= 4001 && n%2 == 1:
		return node(api.NdList, many(n/2, one())...)
	case n <= 4002:
		return node(api.NdApp, named(api.NdCon, "B"), filler(n-1))
	}
	var l []api.Node
	for left := n - 1; left > 0; {
		size := min(left-1, 4001)
		if left-1-size == 1 {
			size-- // a part has itself and the Cons that holds it
		}
		l = append(l, filler(size))
		left -= 1 + size
	}
	return node(api.NdList, l...)
}

// ofAllKinds is an expression with all kinds in it: what is counted ahead must be neither too few nor too many.
func ofAllKinds(t *testing.T) api.Node {
	var l []api.Node
	for _, text := range []string{
		"x", "add", "getc", "C", ":", "1", "'a'", `"text"`, "- 1", "(1, 2)", "[1, 2]", "f 1 2", "C 1 2 3 4", "add 1", "(1 +)", "(+ 1)", "(`C` 1)", "(1 `add`)", "if a then b else c",
		`\ x y -> x`, `\ 1 'a' "ab" [a, b] (c, d) (B e) x@_ ~f -> (a, x, f)`, `\ ~(a, ~[b, (c, d)], ~(e, f)) -> [a, c, d, f]`, `\ ~(a, b) ~[c, ~d] -> [c, d]`, `\ ~(a, 1) -> 2`, `\ ~(~ ~(a, ~ ~b, "xy")) -> (a, b)`,
		"case x of { 1 -> 2 ; y | y -> 3 | z -> 4 where { z = y } ; _ -> 5 }", "let { f 1 x = g x ; f y _ | y = 1 ; g x = f x x ; h = 3 } in h", "let { (a, ~(b, c)) | a = c | b = 1 ; _ = a ; x@[y, ~z] = b ; ~(p, ~q) = 1 } in y", "let { } in 1",
		"do { a ; x <- b ; ~(y, 1) <- c ; let { z = x } ; z y }", "[ x | a ]", "[ x | x <- l, x, y <- x, y, z, let { z = 1 }, ~(w, v) <- z, (1, u) <- w ]", "[ x | let { x = 1 }, x ]",
	} {
		if text == ":" {
			l = append(l, named(api.NdCon, ":"))
			continue
		}
		l = append(l, tree(t, text))
	}
	return node(api.NdList, l...)
}

// P13.1: as many expressions as may be, of all kinds, and one more.
func TestMostExpressions(t *testing.T) {
	kinds := ofAllKinds(t)
	size := core.Size((&reference{cons: cons()}).expr(kinds, nil))
	with := func(n int) api.Node { return node(api.NdTuple, kinds, filler(n)) }
	got, f := desugar.Expr(with(api.MaxNodes-1-size), cons())
	if f != (api.Fault{}) || core.Size(got) != api.MaxNodes {
		t.Errorf("as many as may be: %d, %v", core.Size(got), f)
	}
	checkFault(t, "one more", with(api.MaxNodes-size), cons(), api.Fault{Err: api.ErrLong})
}

// P13.2: a program's are counted together.
func TestMostExpressionsOfAProgram(t *testing.T) {
	kinds := ofAllKinds(t)
	decls := []api.Node{named(api.NdData, "Own", named(api.NdConDef, "A"), api.Node{Kind: api.NdConDef, Name: "B", Num: 1}, api.Node{Kind: api.NdConDef, Name: "C", Num: 3}), is("main", kinds), program(t, "~(p, ~q) | True = 1\n").Kids[0]}
	for _, name := range []string{"a", "b", "c", "f", "l", "x", "y", "z"} {
		decls = append(decls, is(name, one()))
	}
	decls = append(decls, named(api.NdEqn, "+", anything(), anything(), node(api.NdRhs, one())))
	size := 0
	for _, b := range (&reference{}).program(node(api.NdProgram, decls...)).Binds {
		size += core.Size(b.E)
	}
	with := func(n int) api.Node {
		return node(api.NdProgram, append(slices.Clone(decls), is("k", filler(n/2)), is("m", filler(n-n/2)))...)
	}
	p, f := desugar.Program(with(api.MaxNodes - size))
	if f != (api.Fault{}) || core.Check(p) != api.OK {
		t.Errorf("as many as may be: %v, %v", f, core.Check(p))
	}
	checkProgramFault(t, "one more", with(api.MaxNodes-size+1), api.Fault{Err: api.ErrLong})
}

// manyOf is a node for a number of parts.
type manyOf func(n int) api.Node

// P13.1: nested as deep as may be, and one deeper, by lists of many parts: no call is nested as deep.
func TestDeepest(t *testing.T) {
	before := debug.SetMaxStack(8 << 20)
	t.Cleanup(func() { debug.SetMaxStack(before) })
	rhs := func(kids ...api.Node) api.Node { return node(api.NdRhs, kids...) }
	lets := func(l ...api.Node) api.Node { return node(api.NdLet, node(api.NdWhere, l...), one()) }
	stmt, gen := node(api.NdStmt, one()), node(api.NdGen, anything(), one())
	guards := func(n int) []api.Node { return many(n, node(api.NdGuard, one(), one())) }
	eqn := named(api.NdEqn, "f", api.Node{Kind: api.NdPInt, Num: 1}, rhs(one()))
	for what, x := range map[string]struct {
		most int
		of   manyOf
	}{
		"a list":              {4095, func(n int) api.Node { return node(api.NdList, many(n, one())...) }},
		"a text":              {4095, func(n int) api.Node { return named(api.NdString, strings.Repeat("t", n)) }},
		"arguments":           {4095 * 32, func(n int) api.Node { return of(one(), n) }},
		"statements":          {2047, func(n int) api.Node { return node(api.NdDo, many(n+1, stmt)...) }},
		"actions' patterns":   {1362, func(n int) api.Node { return node(api.NdDo, append(many(n, gen), stmt)...) }},
		"conditions":          {4094, func(n int) api.Node { return node(api.NdComp, append([]api.Node{one()}, many(n, stmt)...)...) }},
		"lists drawn from":    {1021, func(n int) api.Node { return node(api.NdComp, append([]api.Node{one()}, many(n, gen)...)...) }},
		"guards of a row":     {4093, func(n int) api.Node { return node(api.NdCase, one(), node(api.NdAlt, anything(), rhs(guards(n)...))) }},
		"guards of a name":    {4085, func(n int) api.Node { return lets(node(api.NdBind, named(api.NdPVar, "x"), rhs(guards(n)...))) }},
		"guards of a pattern": {4085, func(n int) api.Node { return lets(node(api.NdBind, anything(), rhs(guards(n)...))) }},
		"names":               {4095, func(n int) api.Node { return lets(numberedDeclarations(n)...) }},
		"equations":           {4084, func(n int) api.Node { return lets(many(n, eqn)...) }},
		"alternatives": {4085, func(n int) api.Node {
			return node(api.NdCase, append([]api.Node{one()}, many(n, node(api.NdAlt, anything(), rhs(one())))...)...)
		}},
		"a pattern's parts":   {4092, func(n int) api.Node { return node(api.NdLam, node(api.NdPList, many(n, anything())...), one()) }},
		"a pattern's letters": {2046, func(n int) api.Node { return node(api.NdLam, named(api.NdPString, strings.Repeat("t", n)), one()) }},
	} {
		got, f := desugar.Expr(x.of(x.most), cons())
		if n := core.Size(got); f != (api.Fault{}) || n == 0 {
			t.Errorf("%s: %v", what, f)
		}
		checkFault(t, what+", one deeper", x.of(x.most+1), cons(), api.Fault{Err: api.ErrLong})
		checkProgramFault(t, what+", in a program", node(api.NdProgram, is("main", x.of(x.most))), api.Fault{})
		checkProgramFault(t, what+", in a program, one deeper", node(api.NdProgram, is("main", x.of(x.most+1))), api.Fault{Err: api.ErrLong})
	}
}

// numberedDeclarations are those of so many names.
func numberedDeclarations(n int) []api.Node {
	var l []api.Node
	for _, name := range numbered("n", n) {
		l = append(l, is(name, one()))
	}
	return l
}

func numberedNames(kind, n int) []api.Node {
	var l []api.Node
	for _, name := range numbered("n", n) {
		l = append(l, named(kind, name))
	}
	return l
}

// P13.1: small trees that come to more than any memory holds, and great ones, end with ErrLong, and take no more memory than they must.
func TestTooGreat(t *testing.T) {
	before := debug.SetMaxStack(8 << 20)
	t.Cleanup(func() { debug.SetMaxStack(before) })
	long, longer := strings.Repeat("t", 60000), strings.Repeat("t", 1<<22)
	names, used := numberedNames(api.NdPVar, 200000), numberedNames(api.NdVar, 200000)
	list := node(api.NdPList, names...)
	bind := func(p api.Node) api.Node {
		return node(api.NdLet, node(api.NdWhere, node(api.NdBind, p, node(api.NdRhs, one()))), one())
	}
	lazily := node(api.NdPList, names[:3000]...)
	for range 100 {
		lazily = node(api.NdPLazy, lazily)
	}
	for what, n := range map[string]api.Node{
		"a lazy pattern":       node(api.NdLam, node(api.NdPLazy, list), node(api.NdList, used...)),
		"a smaller one":        node(api.NdLam, node(api.NdPLazy, node(api.NdPList, names[:8000]...)), node(api.NdList, used[:8000]...)),
		"one in many":          node(api.NdLam, lazily, node(api.NdList, used[:3000]...)),
		"a pattern's names":    bind(list),
		"few of them":          bind(node(api.NdPList, names[:1000]...)),
		"names of a lazy one":  bind(node(api.NdPLazy, list)),
		"a pattern's numbers":  bind(node(api.NdPTuple, names[0], node(api.NdPList, many(500000, api.Node{Kind: api.NdPInt})...))),
		"long texts":           node(api.NdList, many(500000, named(api.NdString, long))...),
		"long texts' patterns": node(api.NdLam, node(api.NdPList, many(500000, named(api.NdPString, long))...), one()),
		"names among texts":    bind(node(api.NdPList, slices.Concat(names, many(500000, named(api.NdPString, longer)))...)),
		"constructors":         node(api.NdList, many(600, node(api.NdList, many(1000, named(api.NdCon, "L"))...))...),
		"lambdas":              node(api.NdList, many(1000, node(api.NdList, many(300, node(api.NdLam, anything(), one()))...))...),
	} {
		l := slices.Insert(cons(), 4, api.Con{Name: "L", Arity: 32, Type: "Loaf"})
		var old, now runtime.MemStats
		runtime.ReadMemStats(&old)
		checkFault(t, what, n, l, api.Fault{Err: api.ErrLong})
		runtime.ReadMemStats(&now)
		if mega := (now.TotalAlloc - old.TotalAlloc) >> 20; mega > 2000 {
			t.Errorf("%s: %d megabytes", what, mega)
		}
	}
}

// P13.1: what adds nothing may stand often: empty blocks, and lazy patterns whose names nobody uses.
func TestOftenNothing(t *testing.T) {
	nothing := node(api.NdLets, node(api.NdWhere))
	checkExpr(t, node(api.NdDo, append(many(100000, nothing), node(api.NdStmt, one()))...), number(1))
	checkExpr(t, node(api.NdComp, append([]api.Node{one()}, many(100000, nothing)...)...), conOf("Cons", number(1), conOf("Nil")))
	checkExpr(t, node(api.NdLam, node(api.NdPLazy, node(api.NdPList, numberedNames(api.NdPVar, 100000)...)), one()), lamOf(letIn(number(1), api.Bind{Name: "no", E: failure()}), "a"))
}

// P13.1: lambdas in lambdas, and lets in lets, as deep as may be, around much: what stands within is not gone through for each of them.
func TestNestedAroundMuch(t *testing.T) {
	lams, lets := filler(500000), filler(500000)
	for range 240 {
		lams = node(api.NdLam, node(api.NdPLazy, named(api.NdPVar, "x")), lams)
	}
	for range 60 {
		lets = node(api.NdLet, node(api.NdWhere, is("x", lets)), one())
	}
	for what, n := range map[string]api.Node{"lambdas": lams, "lets": lets} {
		if e, f := desugar.Expr(n, cons()); f != (api.Fault{}) || core.Size(e) < 500000 {
			t.Errorf("%s: %v, %d", what, f, core.Size(e))
		}
	}
}

// P13.1: many bindings that lean on one another are one let.
func TestManyBindings(t *testing.T) {
	var decls []api.Node
	names := numbered("n", 15000)
	for i, name := range names {
		decls = append(decls, is(name, named(api.NdVar, names[(i+1)%len(names)])))
	}
	e, f := desugar.Expr(node(api.NdLet, node(api.NdWhere, decls...), one()), cons())
	if f != (api.Fault{}) || len(e.Binds) != len(names) || !slices.EqualFunc(e.Binds, names, func(b api.Bind, name string) bool { return b.Name == name }) {
		t.Errorf("%d bindings, %v", len(e.Binds), f)
	}
	decls = append(decls, numberedDeclarations(25000)[15000:]...)
	checkFault(t, "too many to stand one in another", node(api.NdLet, node(api.NdWhere, decls...), one()), cons(), api.Fault{Err: api.ErrLong})
}

// P13.1: an expression as deep as syntax allows is asked for faults as others are.
func TestFaultsInTheDeep(t *testing.T) {
	for what, x := range map[string]struct {
		n    api.Node
		want api.Fault
	}{
		"fine": {one(), api.Fault{}}, "shape": {named(api.NdCon, "Zoe"), api.Fault{Err: api.ErrScope, At: api.MaxDeep + 6}}, "scope": {node(api.NdLam, named(api.NdPVar, "x"), named(api.NdPVar, "x"), one()), api.Fault{Err: api.ErrScope, At: api.MaxDeep + 7}},
	} {
		deep := api.MaxDeep - 1
		if x.n.Kids != nil {
			deep--
		}
		checkFault(t, what, testkit.Placed(inBrackets(x.n, deep)), cons(), x.want)
	}
}
