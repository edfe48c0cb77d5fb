package syntax_test

import "thunkmill/api"

// The makers of nodes that the tables of these tests are written with.

func of(kind int, kids ...api.Node) api.Node { return api.Node{Kind: kind, Kids: kids} }

func named(kind int, name string, kids ...api.Node) api.Node {
	return api.Node{Kind: kind, Name: name, Kids: kids}
}

func counted(kind int, num int64) api.Node { return api.Node{Kind: kind, Num: num} }

func v(name string) api.Node { return named(api.NdVar, name) }

func con(name string) api.Node { return named(api.NdCon, name) }

func num(n int64) api.Node { return counted(api.NdInt, n) }

func op(name string) api.Node { return named(api.NdOp, name) }

func app(kids ...api.Node) api.Node { return of(api.NdApp, kids...) }

func ops(kids ...api.Node) api.Node { return of(api.NdOps, kids...) }

func paren(kids ...api.Node) api.Node { return of(api.NdParen, kids...) }

func pv(name string) api.Node { return named(api.NdPVar, name) }

func pcon(name string, kids ...api.Node) api.Node { return named(api.NdPCon, name, kids...) }

func rhs(kids ...api.Node) api.Node { return of(api.NdRhs, kids...) }

func guard(c, e api.Node) api.Node { return of(api.NdGuard, c, e) }

func where(kids ...api.Node) api.Node { return of(api.NdWhere, kids...) }

func bind(name string, e api.Node) api.Node { return of(api.NdBind, pv(name), rhs(e)) }

func alt(p api.Node, e api.Node) api.Node { return of(api.NdAlt, p, rhs(e)) }

func gen(p, e api.Node) api.Node { return of(api.NdGen, p, e) }

func lets(kids ...api.Node) api.Node { return of(api.NdLets, where(kids...)) }

func stmt(e api.Node) api.Node { return of(api.NdStmt, e) }

func conDef(name string, parts int64) api.Node {
	return api.Node{Kind: api.NdConDef, Name: name, Num: parts}
}

func fixity(name string, level int64, kids ...api.Node) api.Node {
	return api.Node{Kind: api.NdFixity, Name: name, Num: level, Kids: kids}
}

// sample is a node and its text.
type sample struct {
	node api.Node
	text string
}

// samples are an ordinary node of each kind, from 1 to 44.
func samples() []sample {
	return []sample{
		{of(api.NdProgram, bind("x", num(1)), named(api.NdEqn, "f", pv("y"), rhs(v("y")))), "{ x = 1 ; f y = y ; }"},
		{named(api.NdData, "T", conDef("C", 2), conDef("D", 0)), "data T = C a a | D"},
		{conDef("C", 1), "C a"},
		{fixity("infixl", 6, op("+"), op("f")), "infixl 6 + , ` f `"},
		{op("*"), "*"},
		{named(api.NdEqn, "f", pv("x"), of(api.NdPAny), rhs(v("x"))), "f x _ = x"},
		{of(api.NdBind, pcon("C", pv("x")), rhs(v("y"))), "C x = y"},
		{rhs(v("x"), where(bind("x", num(1)))), "= x where { x = 1 ; }"},
		{guard(v("c"), v("x")), "| c = x"},
		{where(bind("x", num(1))), "{ x = 1 ; }"},
		{v("x"), "x"},
		{con("C"), "C"},
		{num(12), "12"},
		{counted(api.NdChar, 'a'), "'a'"},
		{named(api.NdString, "ab"), `"ab"`},
		{app(v("f"), v("x")), "f x"},
		{ops(v("x"), op("+"), num(1)), "x + 1"},
		{of(api.NdNeg, v("x")), "- x"},
		{of(api.NdLam, pv("x"), v("x")), `\ x -> x`},
		{of(api.NdLet, where(bind("x", num(1))), v("x")), "let { x = 1 ; } in x"},
		{of(api.NdIf, v("c"), num(1), num(2)), "if c then 1 else 2"},
		{of(api.NdCase, v("x"), alt(counted(api.NdPInt, 0), num(1)), alt(of(api.NdPAny), num(2))), "case x of { 0 -> 1 ; _ -> 2 ; }"},
		{alt(pcon("C", pv("x")), v("x")), "C x -> x"},
		{of(api.NdDo, gen(pv("c"), v("m")), lets(bind("x", v("c"))), stmt(v("x"))), "do { c <- m ; let { x = c ; } ; x ; }"},
		{of(api.NdTuple, v("x"), num(1)), "( x , 1 )"},
		{of(api.NdList, num(1), num(2), num(3)), "[ 1 , 2 , 3 ]"},
		{of(api.NdComp, v("x"), gen(pv("x"), v("l")), lets(bind("y", v("x"))), stmt(v("y"))), "[ x | x <- l , let { y = x ; } , y ]"},
		{named(api.NdLeft, "+", num(1)), "( 1 + )"},
		{named(api.NdRight, "+", num(1)), "( + 1 )"},
		{paren(v("x")), "( x )"},
		{gen(pv("x"), v("l")), "x <- l"},
		{lets(bind("x", num(1))), "let { x = 1 ; }"},
		{stmt(v("x")), "x"},
		{pv("x"), "x"},
		{of(api.NdPAny), "_"},
		{counted(api.NdPInt, 7), "7"},
		{counted(api.NdPChar, 'b'), "'b'"},
		{named(api.NdPString, "cd"), `"cd"`},
		{pcon("C", pv("x"), pv("y")), "C x y"},
		{of(api.NdPTuple, pv("x"), pv("y")), "( x , y )"},
		{of(api.NdPList, pv("x")), "[ x ]"},
		{named(api.NdPAs, "x", pv("y")), "x @ y"},
		{of(api.NdPLazy, pv("x")), "~ x"},
		{of(api.NdPOps, pv("x"), op(":"), pv("y")), "x : y"},
	}
}

// ofKind is the ordinary node of a kind.
func ofKind(kind int) api.Node { return samples()[kind-1].node }

// repeated is a list of n nodes that are the same.
func repeated(n api.Node, times int) []api.Node {
	l := make([]api.Node, times)
	for i := range l {
		l[i] = n
	}
	return l
}

// nested is a tree that is so deep, in parentheses around an x.
func nested(deep int) api.Node {
	n := v("x")
	for range deep - 1 {
		n = paren(n)
	}
	return n
}

// wide is a list that has so many nodes, itself counted.
func wide(nodes int) api.Node { return of(api.NdList, repeated(v("x"), nodes-1)...) }

// endless is a node whose list of kids is among its own kids.
func endless(kind int) api.Node {
	kids := []api.Node{v("x"), {Kind: kind}}
	kids[1].Kids = kids
	return kids[1]
}

// shared is a tree whose nodes double with each step down, in lists that they share.
func shared(steps int) api.Node {
	n := v("x")
	for range steps {
		n = app(n, n)
	}
	return n
}
