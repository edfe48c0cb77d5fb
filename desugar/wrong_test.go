package desugar_test

import (
	"math"
	"slices"
	"testing"

	"thunkmill/api"
	"thunkmill/core"
	"thunkmill/desugar"
	"thunkmill/scope"
	"thunkmill/shape"
	"thunkmill/syntax"
	"thunkmill/testkit"
)

// in are ways to put an expression into another one.
func in(n api.Node) []api.Node {
	alt := func(kids ...api.Node) api.Node {
		return node(api.NdCase, one(), node(api.NdAlt, anything(), node(api.NdRhs, kids...)))
	}
	where := func(e api.Node) api.Node { return node(api.NdWhere, is("it", e)) }
	return []api.Node{
		n, node(api.NdParen, n), node(api.NdNeg, n), node(api.NdApp, n, one()), node(api.NdApp, one(), n), node(api.NdTuple, one(), n), node(api.NdList, n), named(api.NdLeft, "+", n), named(api.NdRight, "+", n),
		node(api.NdIf, n, one(), one()), node(api.NdIf, one(), one(), n), node(api.NdLam, anything(), n), node(api.NdCase, n, node(api.NdAlt, anything(), node(api.NdRhs, one()))), alt(n), alt(node(api.NdGuard, n, one())), alt(node(api.NdGuard, one(), n)), alt(one(), where(n)),
		node(api.NdLet, where(n), one()), node(api.NdLet, node(api.NdWhere), n), node(api.NdLet, node(api.NdWhere, named(api.NdEqn, "it", anything(), node(api.NdRhs, n))), one()),
		node(api.NdDo, node(api.NdStmt, n)), node(api.NdDo, node(api.NdStmt, n), node(api.NdStmt, one())), node(api.NdDo, node(api.NdGen, anything(), n), node(api.NdStmt, one())), node(api.NdDo, node(api.NdLets, where(n)), node(api.NdStmt, one())),
		node(api.NdComp, n, node(api.NdStmt, one())), node(api.NdComp, one(), node(api.NdStmt, n)), node(api.NdComp, one(), node(api.NdGen, anything(), n)), node(api.NdComp, one(), node(api.NdLets, where(n))),
	}
}

// P13.1: whatever syntax.Check says, at 0.
func TestWhatSyntaxSays(t *testing.T) {
	deep := inBrackets(one(), api.MaxDeep-1)
	checkFault(t, "deep", deep, cons(), api.Fault{})
	deeper := node(api.NdParen, deep)
	deeper.At = 9
	checkFault(t, "deeper", deeper, cons(), api.Fault{Err: api.ErrLong})
	checkFault(t, "deeper, and cons wrong", deeper, nil, api.Fault{Err: api.ErrLong})
	for _, wrong := range []api.Node{{At: 3}, {Kind: -1}, {Kind: api.NdVar, At: 3}, {Kind: api.NdVar, Name: "B"}, {Kind: api.NdCon, Name: "b"}, {Kind: api.NdInt, Num: -1}, {Kind: api.NdChar, Num: 256}, {Kind: api.NdVar, Name: "%no"}, {Kind: api.NdApp}, {Kind: api.NdLam}, {Kind: api.NdTuple}, {Kind: math.MaxInt}, {Kind: api.NdDo}, node(api.NdApp, one()), node(api.NdLet, one(), one()), node(api.NdParen, node(api.NdPAny))} {
		for _, n := range in(wrong) {
			checkFault(t, "no node", n, cons(), api.Fault{Err: api.ErrArg})
		}
	}
	great := node(api.NdList, many(1<<20-1, one())...)
	checkFault(t, "as many nodes as may be, as a list", great, cons(), api.Fault{Err: api.ErrLong})
	great.Kids = append(great.Kids, one())
	checkFault(t, "too many nodes", great, nil, api.Fault{Err: api.ErrLong})
}

// P13.1: ErrArg at 0: what is no expression.
func TestNoExpression(t *testing.T) {
	trees := testkit.Trees{Chance: seeded(7)}
	for kind := api.NdProgram; kind <= api.NdPOps; kind++ {
		isOne := kind >= api.NdVar && kind <= api.NdParen && kind != api.NdAlt
		for range 50 {
			n := trees.Tree(kind, 2)
			n.At = 5
			if syntax.Check(n) != api.OK {
				continue
			}
			if _, f := desugar.Expr(n, cons()); !isOne && f != (api.Fault{Err: api.ErrArg}) {
				t.Errorf("%d: %v", kind, f)
			}
		}
	}
}

// P13.1: ErrArg at 0: operators that are not in order, a fixity or data within.
func TestNotPlain(t *testing.T) {
	ops := api.Node{Kind: api.NdOps, Kids: []api.Node{one(), named(api.NdOp, "+"), one()}, At: 4}
	pops := api.Node{Kind: api.NdPOps, Kids: []api.Node{anything(), named(api.NdOp, ":"), anything()}, At: 4}
	data := named(api.NdData, "T", named(api.NdConDef, "P"))
	fixity := api.Node{Kind: api.NdFixity, Name: "infix", Kids: []api.Node{named(api.NdOp, "+")}, At: 4}
	rhs := node(api.NdRhs, one())
	for _, wrong := range []api.Node{
		ops, node(api.NdLam, pops, one()), node(api.NdLam, anything(), node(api.NdPLazy, pops), one()), node(api.NdCase, one(), node(api.NdAlt, node(api.NdPTuple, anything(), pops), rhs)), node(api.NdDo, node(api.NdGen, pops, one()), node(api.NdStmt, one())), node(api.NdComp, one(), node(api.NdGen, pops, one())),
		node(api.NdLet, node(api.NdWhere, data), one()), node(api.NdLet, node(api.NdWhere, fixity), one()), node(api.NdLet, node(api.NdWhere, is("x", one()), fixity), one()), node(api.NdLet, node(api.NdWhere, node(api.NdBind, pops, rhs)), one()), node(api.NdLet, node(api.NdWhere, named(api.NdEqn, "f", pops, rhs)), one()),
		node(api.NdDo, node(api.NdLets, node(api.NdWhere, data)), node(api.NdStmt, one())), node(api.NdComp, one(), node(api.NdLets, node(api.NdWhere, fixity))), node(api.NdCase, one(), node(api.NdAlt, anything(), node(api.NdRhs, one(), node(api.NdWhere, data)))),
	} {
		if e := syntax.Check(wrong); e != api.OK {
			t.Fatalf("%v: %v", wrong, e)
		}
		for _, n := range in(wrong) {
			checkFault(t, "not plain", n, cons(), api.Fault{Err: api.ErrArg})
			checkProgramFault(t, "not plain", node(api.NdProgram, is("main", n), named(api.NdEqn, "+", anything(), anything(), node(api.NdRhs, one()))), api.Fault{Err: api.ErrArg})
		}
	}
	checkProgramFault(t, "a program's own", node(api.NdProgram, fixity, data, is("main", one())), api.Fault{})
	checkProgramFault(t, "a pattern", node(api.NdProgram, is("main", one()), node(api.NdBind, pops, rhs)), api.Fault{Err: api.ErrArg})
	checkProgramFault(t, "an equation", node(api.NdProgram, is("main", one()), named(api.NdEqn, "f", pops, rhs)), api.Fault{Err: api.ErrArg})
}

// P13.1: ErrArg at 0: constructors that no program has, or that lack built-in ones.
func TestConstructorsThatMayNotBe(t *testing.T) {
	n := one()
	n.At = 3
	fine := map[string][]api.Con{"all": cons(), "built-in": shape.Builtin(), "two of a tuple's type": slices.Insert(shape.Builtin(), 5, api.Con{Name: "P", Type: "Tup2", Tag: 1}), "a strange name": slices.Insert(shape.Builtin(), 0, api.Con{Name: "%ok", Type: "%"}), "32 parts": append(shape.Builtin(), api.Con{Name: "P", Type: "Z", Arity: 32}), "a constructor :": append(shape.Builtin(), api.Con{Name: ":", Type: "Z", Arity: 7})}
	for what, l := range fine {
		checkFault(t, what, n, l, api.Fault{})
	}
	b := shape.Builtin
	wrong := map[string][]api.Con{
		"none": nil, "core's alone": core.Builtin(), "not by type": append(b(), api.Con{Name: "P", Type: "A"}), "not from 0 on": append(b(), api.Con{Name: "P", Type: "Z", Tag: 1}), "a tag left out": append(b(), api.Con{Name: "P", Type: "Z"}, api.Con{Name: "Q", Type: "Z", Tag: 2}), "a name twice": append(b(), api.Con{Name: "True", Type: "Z"}), "a name twice of one type": append(b(), api.Con{Name: "P", Type: "Z"}, api.Con{Name: "P", Type: "Z", Tag: 1}),
		"one more of a built-in type": slices.Insert(b(), 2, api.Con{Name: "Maybe", Type: "Bool", Tag: 2}), "33 parts": append(b(), api.Con{Name: "P", Type: "Z", Arity: 33}), "fewer than no parts": append(b(), api.Con{Name: "P", Type: "Z", Arity: -1}), "no name": append(b(), api.Con{Type: "Z"}), "no type": slices.Insert(b(), 0, api.Con{Name: "P"}), "a name that is none": append(b(), api.Con{Name: "a b", Type: "Z"}),
	}
	for i := range b() {
		wrong["without "+b()[i].Name] = slices.Delete(b(), i, i+1)
		l := b()
		l[i].Arity++
		wrong["another arity of "+l[i].Name] = l
		l = b()
		l[i].Name = "P"
		wrong["another name than "+b()[i].Name] = l
		l = b()
		l[i].Type += "x"
		wrong["another type of "+l[i].Name] = l
	}
	for what, l := range wrong {
		checkFault(t, what, n, l, api.Fault{Err: api.ErrArg})
		checkFault(t, what, named(api.NdCon, "Zoe"), l, api.Fault{Err: api.ErrArg})
	}
}

// P13.1: the faults of shape: constructors that are not there, patterns whose constructors have not all their parts, at their places.
func TestShapeFaults(t *testing.T) {
	for text, want := range map[string]api.Fault{
		"Zoe": {Err: api.ErrScope, At: 0}, "f Zoe": {Err: api.ErrScope, At: 2}, `\ (B x) -> x`: {}, `\ B -> 1`: {Err: api.ErrShape, At: 2}, `\ (B x y) -> 1`: {Err: api.ErrShape, At: 3}, `\ (Zoe x) -> 1`: {Err: api.ErrScope, At: 3}, `\ (x : y) (C a b) -> 1`: {Err: api.ErrShape, At: 11}, `\ (Tup3 a b) -> 1`: {Err: api.ErrShape, At: 3}, `\ (a, b) -> 1`: {},
		"case 1 of { B -> Zoe }": {Err: api.ErrShape, At: 12}, "let x = Zoe in B": {Err: api.ErrScope, At: 8}, "let { B = 1 } in 2": {Err: api.ErrShape, At: 6}, "[ Zoe | B <- x ]": {Err: api.ErrScope, At: 2}, "[ 1 | B <- x ]": {Err: api.ErrShape, At: 6}, "do { A <- x ; B }": {}, "do { A x <- x ; B }": {Err: api.ErrShape, At: 5}, "(A, Zoe, Bob)": {Err: api.ErrScope, At: 4}, "(:)": {}, "Tup5": {Err: api.ErrScope, At: 0},
	} {
		checkFault(t, text, tree(t, text), cons(), want)
	}
	checkFault(t, "no :+", named(api.NdCon, ":+"), shape.Builtin(), api.Fault{Err: api.ErrScope})
	checkFault(t, ": of no parts", node(api.NdLam, named(api.NdPCon, "Cons"), one()), cons(), api.Fault{Err: api.ErrShape})
}

// P13.1: the faults of scope, at their places; free names are fine.
func TestScopeFaults(t *testing.T) {
	for text, want := range map[string]api.Fault{
		`\ x x -> 1`: {Err: api.ErrScope, At: 4}, `\ (x, y) (a, b@x) -> 1`: {Err: api.ErrScope, At: 15}, `\ x -> \ x -> 1`: {}, "case 1 of { (x, x) -> 1 }": {Err: api.ErrScope, At: 16}, "do { x@x <- 1 ; 2 }": {Err: api.ErrScope, At: 7}, "do { x <- 1 ; x <- 2 ; 3 }": {}, "[ 1 | ~[x, y, x] <- l ]": {Err: api.ErrScope, At: 14},
		"let { x = 1 ; x = 2 } in 3": {Err: api.ErrScope, At: 14}, "let { (x, x) = 1 } in 3": {Err: api.ErrScope, At: 6}, "let { (x, y) = 1 ; f z = 1 ; z = 2 ; y = 3 } in 3": {Err: api.ErrScope, At: 37}, "let { f 1 = 2 ; g = 3 ; f 2 = 4 } in 3": {Err: api.ErrScope, At: 24}, "let { f 1 = 2 ; f 1 2 = 3 } in 3": {Err: api.ErrShape, At: 16}, "let { f = 2 ; f 1 = 3 } in 3": {Err: api.ErrScope, At: 14}, "let { f 1 = 2 ; f = 3 } in 3": {Err: api.ErrScope, At: 16}, "let { f 1 = 2 ; f 2 = 3 ; f _ = 4 } in 3": {}, "let { f x x = 2 } in 3": {Err: api.ErrScope, At: 10},
		"let { f x = \\ y y -> 1 ; f x = 2 ; g = 1 ; g = 2 } in 3": {Err: api.ErrScope, At: 43}, "(free, names + are `which` fine)": {}, "case 1 of { x -> 2 where { y = 1 ; y = 2 } }": {Err: api.ErrScope, At: 35}, "do { let { x = 1 ; x = 2 } ; 3 }": {Err: api.ErrScope, At: 19},
		`[ \ x x -> 1 | (y, y) <- l ]`: {Err: api.ErrScope, At: 19}, `[ \ x x -> 1 | y <- l ]`: {Err: api.ErrScope, At: 6}, `[ 1 | \ x x -> 1, (y, y) <- l ]`: {Err: api.ErrScope, At: 10}, `(\ x x -> 1) (\ y y -> 1)`: {Err: api.ErrScope, At: 5},
	} {
		checkFault(t, text, tree(t, text), cons(), want)
	}
}

// P13.1, P13.2: of two faults that one which is named first: syntax, what may not be, shape, scope, too many. (A section's constructor that is none is a program's fault alone, behind these.)
func TestOrderOfFaults(t *testing.T) {
	shapeFault := api.Node{Kind: api.NdCon, Name: "Zoe", At: 11}
	scopeFault := node(api.NdLam, named(api.NdPVar, "x"), api.Node{Kind: api.NdPVar, Name: "x", At: 22}, one())
	long := node(api.NdLam, append(many(33, anything()), one())...)
	ops := node(api.NdOps, one(), named(api.NdOp, "+"), one())
	section := api.Node{Kind: api.NdLeft, Name: "Zoe", Kids: []api.Node{one()}, At: 33}
	l := []struct {
		n    api.Node
		want api.Fault
	}{
		{api.Node{Kind: api.NdInt, Num: -1}, api.Fault{Err: api.ErrArg}}, {ops, api.Fault{Err: api.ErrArg}}, {shapeFault, api.Fault{Err: api.ErrScope, At: 11}}, {scopeFault, api.Fault{Err: api.ErrScope, At: 22}}, {long, api.Fault{Err: api.ErrLong}}, {section, api.Fault{Err: api.ErrScope, At: 33}},
	}
	for i := range l {
		for k := range l {
			want := l[min(i, k)].want
			of := want
			if want.At == section.At {
				of = api.Fault{}
			}
			checkFault(t, "two faults", node(api.NdTuple, l[i].n, l[k].n), cons(), of)
			checkProgramFault(t, "two faults", node(api.NdProgram, is("main", l[i].n), is("x", l[k].n), named(api.NdEqn, "+", anything(), anything(), node(api.NdRhs, one()))), programWant(l[i].n, l[k].n, want))
		}
	}
	checkFault(t, "no constructors", shapeFault, nil, api.Fault{Err: api.ErrArg})
	checkFault(t, "no expression", node(api.NdRhs, shapeFault), cons(), api.Fault{Err: api.ErrArg})
}

// programWant is a program's fault: all that layer 10 says is ahead of operators that are not in order.
func programWant(a, b api.Node, of api.Fault) api.Fault {
	if f := scope.Check(node(api.NdProgram, is("main", a), is("x", b), named(api.NdEqn, "+", anything(), anything(), node(api.NdRhs, one())))); f != (api.Fault{}) {
		return f
	}
	return of
}

// P13.2: scope.Check's fault, whatever it says, ahead of all others.
func TestProgramFaults(t *testing.T) {
	for text, want := range map[string]api.Fault{
		"main = x": {Err: api.ErrScope, At: 7}, "main = Zoe": {Err: api.ErrScope, At: 7}, "main = 1\nmain = 2": {Err: api.ErrScope, At: 9}, "main 1 = 1\nmain 1 2 = 2": {Err: api.ErrShape, At: 11}, "data T = A | A\nmain = 1": {Err: api.ErrScope, At: 13}, "data Bool = X\nmain = 1": {Err: api.ErrScope, At: 0}, "main = f where f True x = 1; g (True x) = 1": {Err: api.ErrShape, At: 32},
		"x = 1": {Err: api.ErrMain}, "": {Err: api.ErrMain}, "x = y": {Err: api.ErrScope, At: 4}, "f main = 1": {Err: api.ErrMain}, "x = main where main = 1": {Err: api.ErrMain}, "data T = T\ninfixl 3 +": {Err: api.ErrMain}, "main = 1": {}, "(x, [main]) = 1": {}, "main@x = 1": {}, "main x = 1": {},
	} {
		checkProgramFault(t, text, program(t, text), want)
	}
	for _, n := range []api.Node{{}, one(), node(api.NdWhere, is("main", one())), {Kind: api.NdProgram, Num: 1}, {Kind: api.NdProgram, At: 7, Kids: []api.Node{one()}}, node(api.NdRhs, one())} {
		checkProgramFault(t, "no program", n, api.Fault{Err: api.ErrArg})
	}
	checkProgramFault(t, "deep", node(api.NdProgram, is("main", inBrackets(one(), api.MaxDeep-4))), api.Fault{})
	checkProgramFault(t, "deeper", node(api.NdProgram, is("main", inBrackets(one(), api.MaxDeep-3))), api.Fault{Err: api.ErrLong})
	// No main is ahead of too many patterns, and behind operators that are not in order.
	many33, ops := node(api.NdLam, append(many(33, anything()), one())...), node(api.NdOps, one(), named(api.NdOp, "add"), one())
	checkProgramFault(t, "no main, too many", node(api.NdProgram, is("x", many33)), api.Fault{Err: api.ErrMain})
	checkProgramFault(t, "no main, operators", node(api.NdProgram, is("x", ops)), api.Fault{Err: api.ErrArg})
}

// P13.1, P13.4: a section's constructor that is none is no fault of an expression; it is one of a program, at the section's place: what is made of it would not pass core.Check.
func TestSectionsOfNothing(t *testing.T) {
	for text, at := range map[string]int{"(1 `Zoe`)": 0, "f (`Zoe` 1)": 2, "(1 :~)": 0, "(:~ 1)": 0, "let {z = (:~ 1)} in z": 9, "\\ x -> (x :~)": 7, "case 1 of { 2 | (`Zoe` 1) -> 3 }": 16, "[ (1 `Zoe`) | x <- l ]": 2, "do { x <- 1 ; (:~ x) }": 14} {
		checkFault(t, text, tree(t, text), cons(), api.Fault{})
		checkProgramFault(t, text, program(t, "f = 1; l = 2; main = "+text), api.Fault{Err: api.ErrScope, At: at + 21})
	}
	for _, text := range []string{"((1 :), (`Just` 1))", "\\ x -> (: x)"} {
		checkFault(t, text, tree(t, text), cons(), api.Fault{})
		checkProgramFault(t, text, program(t, "data T = Just a; main = "+text), api.Fault{})
	}
	checkProgramFault(t, "no operator", program(t, "main = (1 :+)"), api.Fault{Err: api.ErrScope, At: 7})
	checkFault(t, "an operator", named(api.NdLeft, ":+", one()), cons(), api.Fault{})
}

// P13.1, P13.2: as many patterns as may be, and one more.
func TestManyPatterns(t *testing.T) {
	for _, n := range []int{32, 33} {
		var want api.Fault
		if n > 32 {
			want = api.Fault{Err: api.ErrLong}
		}
		lam := node(api.NdLam, append(many(n, anything()), one())...)
		eqn := named(api.NdEqn, "f", append(many(n, anything()), node(api.NdRhs, one()))...)
		for _, x := range in(lam) {
			checkFault(t, "a lambda", x, cons(), want)
		}
		for _, x := range in(node(api.NdLet, node(api.NdWhere, eqn), one())) {
			checkFault(t, "an equation", x, cons(), want)
		}
		checkProgramFault(t, "a lambda", node(api.NdProgram, is("main", lam)), want)
		checkProgramFault(t, "an equation", node(api.NdProgram, is("main", one()), eqn), want)
		checkFault(t, "a list's pattern", node(api.NdLam, node(api.NdPList, many(n, anything())...), one()), cons(), api.Fault{})
	}
}
