package match_test

import (
	"testing"

	"thunkmill/api"
	"thunkmill/core"
	"thunkmill/match"
	"thunkmill/shape"
)

// The chapter's examples.
func TestExamples(t *testing.T) {
	checkPattern(t, "x", "ok", "no", "(let x = w in ok)")
	checkPattern(t, "(a, _)", "ok", "no", "(case w of Tup2 a' b' -> (let a = a' in ok); _ -> no)")
	checkPattern(t, "~(a : _)", "(a ok)", "no", "(let a = (case w of Cons b c -> (let d = b in d); _ -> failure) in (a ok))")
	checkPattern(t, "1 : []", "ok", "no", "(case w of Cons b c -> (case b of 1 -> (case c of Nil -> ok; _ -> no); _ -> no); _ -> no)")
}

// P12.1: a pattern of each kind, alone.
func TestPatternsAlone(t *testing.T) {
	for _, x := range [][2]string{
		{"x", "(let x = w in (ok x y))"},
		{"_", "(ok x y)"},
		{"x@_", "(let x = w in (ok x y))"},
		{"0", "(case w of 0 -> (ok x y); _ -> no)"},
		{"9223372036854775807", "(case w of 9223372036854775807 -> (ok x y); _ -> no)"},
		{"'a'", "(case w of '97' -> (ok x y); _ -> no)"},
		{`'\255'`, "(case w of '255' -> (ok x y); _ -> no)"},
		{`""`, "(case w of Nil -> (ok x y); _ -> no)"},
		{`"a"`, "(case w of Cons a b -> (case a of '97' -> (case b of Nil -> (ok x y); _ -> no); _ -> no); _ -> no)"},
		{`"a\255"`, "(case w of Cons a b -> (case a of '97' -> (case b of Cons c d -> (case c of '255' -> (case d of Nil -> (ok x y); _ -> no); _ -> no); _ -> no); _ -> no); _ -> no)"},
		{"A", "(case w of A -> (ok x y); _ -> no)"},
		{"()", "(case w of Unit -> (ok x y); _ -> no)"},
		{"Nil", "(case w of Nil -> (ok x y); _ -> no)"},
		{"B _", "(case w of B a -> (ok x y); _ -> no)"},
		{"C x _ y", "(case w of C a b c -> (let x = a in (let y = c in (ok x y))); _ -> no)"},
		{"x : y", "(case w of Cons a b -> (let x = a in (let y = b in (ok x y))); _ -> no)"},
		{"Cons y x", "(case w of Cons a b -> (let y = a in (let x = b in (ok x y))); _ -> no)"},
		{"(_, _)", "(case w of Tup2 a b -> (ok x y); _ -> no)"},
		{"(y, _, x)", "(case w of Tup3 a b c -> (let y = a in (let x = c in (ok x y))); _ -> no)"},
		{"(_, x, _, y)", "(case w of Tup4 a b c d -> (let x = b in (let y = d in (ok x y))); _ -> no)"},
		{"Tup2 x y", "(case w of Tup2 a b -> (let x = a in (let y = b in (ok x y))); _ -> no)"},
		{"[]", "(case w of Nil -> (ok x y); _ -> no)"},
		{"[x]", "(case w of Cons a b -> (let x = a in (case b of Nil -> (ok x y); _ -> no)); _ -> no)"},
		{"[x, _, y]", "(case w of Cons a b -> (let x = a in (case b of Cons c d -> (case d of Cons e f -> (let y = e in (case f of Nil -> (ok x y); _ -> no)); _ -> no); _ -> no)); _ -> no)"},
		{"~x", "(let x = (let a = w in a) in (ok x y))"},
		{"~_", "(ok x y)"},
		{"~1", "(ok x y)"},
		{"~z", "(ok x y)"},
		{"~(C y z x)", "(let y = (case w of C a b c -> (let d = a in (let e = b in (let f = c in d))); _ -> failure); x = (case w of C a b c -> (let d = a in (let e = b in (let f = c in f))); _ -> failure) in (ok x y))"},
	} {
		checkPattern(t, x[0], "(ok x y)", "no", x[1])
	}
}

// P12.1: patterns in one another; what fails fails alike, however deep it is.
func TestPatternsInOneAnother(t *testing.T) {
	for _, x := range [][2]string{
		{"x@(y : _)", "(let x = w in (case w of Cons a b -> (let y = a in (ok x y)); _ -> no))"},
		{"x@y@1", "(let x = w in (let y = w in (case w of 1 -> (ok x y); _ -> no)))"},
		{"(x, 1) : y", "(case w of Cons a b -> (case a of Tup2 c d -> (let x = c in (case d of 1 -> (let y = b in (ok x y)); _ -> no)); _ -> no); _ -> no)"},
		{"1 : 'b' : x", "(case w of Cons a b -> (case a of 1 -> (case b of Cons c d -> (case c of '98' -> (let x = d in (ok x y)); _ -> no); _ -> no); _ -> no); _ -> no)"},
		{"B (B (B x))", "(case w of B a -> (case a of B b -> (case b of B c -> (let x = c in (ok x y)); _ -> no); _ -> no); _ -> no)"},
		{"[[x], \"b\"]", "(case w of Cons a b -> (case a of Cons c d -> (let x = c in (case d of Nil -> (case b of Cons e f -> (case e of Cons g h -> (case g of '98' -> (case h of Nil -> (case f of Nil -> (ok x y); _ -> no); _ -> no); _ -> no); _ -> no); _ -> no); _ -> no)); _ -> no); _ -> no)"},
		{"(~(B x), 1)", "(case w of Tup2 a b -> (let x = (case a of B c -> (let d = c in d); _ -> failure) in (case b of 1 -> (ok x y); _ -> no)); _ -> no)"},
		{"(1, ~(B x))", "(case w of Tup2 a b -> (case a of 1 -> (let x = (case b of B c -> (let d = c in d); _ -> failure) in (ok x y)); _ -> no); _ -> no)"},
		{"x@(~(B y))", "(let x = w in (let y = (case w of B a -> (let b = a in b); _ -> failure) in (ok x y)))"},
		{"~x@(B y)", "(let x = (let a = w in (case w of B b -> (let c = b in a); _ -> failure)); y = (let a = w in (case w of B b -> (let c = b in c); _ -> failure)) in (ok x y))"},
	} {
		checkPattern(t, x[0], "(ok x y)", "no", x[1])
	}
}

// P12.1: no may be the failure, which is then at each place where something fails.
func TestFailureAsNo(t *testing.T) {
	checkPattern(t, "x", "x", "failure", "(let x = w in x)")
	checkPattern(t, "(1, [x])", "x", "failure", "(case w of Tup2 a b -> (case a of 1 -> (case b of Cons c d -> (let x = c in (case d of Nil -> x; _ -> failure)); _ -> failure); _ -> failure); _ -> failure)")
	checkPattern(t, "error", "error", "failure", "(let error = w in error)")
	checkPattern(t, "(error, x)", "(error x)", "no", "(case w of Tup2 a b -> (let error = a in (let x = b in (error x))); _ -> no)")
}

// P12.1: of a lazy pattern one let, whose names stand in the pattern's order, of those alone that are free in ok.
func TestLazyPatterns(t *testing.T) {
	one, two := "(case w of Tup2 a b -> (let c = a in (let d = b in c)); _ -> failure)", "(case w of Tup2 a b -> (let c = a in (let d = b in d)); _ -> failure)"
	for _, x := range [][2]string{
		{"(x y)", "(let x = " + one + "; y = " + two + " in (x y))"},
		{"(y x)", "(let x = " + one + "; y = " + two + " in (y x))"},
		{"(y y)", "(let y = " + two + " in (y y))"},
		{"(\\ x -> (x y))", "(let y = " + two + " in (\\ x -> (x y)))"},
		{"(\\ x y -> (x y))", "(\\ x y -> (x y))"},
		{"(let x = y in x)", "(let y = " + two + " in (let x = y in x))"},
		{"(let y = x in y)", "(let x = " + one + " in (let y = x in y))"},
		{"(case z of B x -> x; y -> y)", "(case z of B x -> x; y -> y)"},
		{"(case x of B y -> x; _ -> y)", "(let x = " + one + "; y = " + two + " in (case x of B y -> x; _ -> y))"},
		{"w", "w"},
		{"no", "no"},
	} {
		checkPattern(t, "~(x, y)", x[0], "no", x[1])
	}
	checkPattern(t, "(~(B x), ~(B y))", "(x y)", "no", "(case w of Tup2 a b -> (let x = (case a of B c -> (let d = c in d); _ -> failure) in (let y = (case b of B c -> (let d = c in d); _ -> failure) in (x y))); _ -> no)")
	checkPattern(t, "(~(B x), ~(B y))", "y", "no", "(case w of Tup2 a b -> (let y = (case b of B c -> (let d = c in d); _ -> failure) in y); _ -> no)")
}

// P12.1: a lazy pattern in a lazy pattern: the inner one's names are asked for by those of the outer one alone.
func TestLazyInLazy(t *testing.T) {
	x := "(case w of Cons a b -> (let c = a in c); _ -> failure)"
	y := "(case w of Cons a b -> (let c = a in (let d = (case b of B e -> (let f = e in f); _ -> failure) in d)); _ -> failure)"
	checkPattern(t, "~(x : ~(B y))", "(x y)", "no", "(let x = "+x+"; y = "+y+" in (x y))")
	checkPattern(t, "~(x : ~(B y))", "x", "no", "(let x = "+x+" in x)")
	checkPattern(t, "~(x : ~(B y))", "y", "no", "(let y = "+y+" in y)")
	checkPattern(t, "~(x : ~(B y))", "z", "no", "z")
	checkPattern(t, "~(~(~x))", "x", "no", "(let x = (let a = (let b = (let c = w in c) in b) in a) in x)")
	checkPattern(t, "~(~(B x))", "x", "no", "(let x = (let a = (case w of B b -> (let c = b in c); _ -> failure) in a) in x)")
}

// P12.1: of lists no constructor is asked for; : and tuples are.
func TestConstructorsAskedFor(t *testing.T) {
	for _, x := range []struct {
		p    string
		cons []api.Con
		want api.Errno
	}{
		{"[]", nil, api.OK}, {"[x]", nil, api.OK}, {`"ab"`, nil, api.OK}, {`""`, nil, api.OK}, {"~[x, y]", nil, api.OK},
		{"[x]", []api.Con{{Name: "Cons", Arity: 7}, {Name: "Nil", Arity: 1}}, api.OK},
		{"x : y", nil, api.ErrScope}, {"Cons x y", nil, api.ErrScope}, {"Nil", nil, api.ErrScope}, {"()", nil, api.ErrScope},
		{"(x, y)", nil, api.ErrScope}, {"(x, y)", core.Builtin(), api.ErrScope}, {"(x, y, z)", []api.Con{{Name: "Tup2", Arity: 2}}, api.ErrScope}, {"(x, y)", shape.Builtin(), api.OK},
		{"(x, y)", []api.Con{{Name: "Tup2", Arity: 3}}, api.ErrShape}, {"(x, y)", []api.Con{{Name: "Tup2", Arity: 2}}, api.OK},
		{"x : y", []api.Con{{Name: "Cons", Arity: 2}}, api.OK}, {"x : y", []api.Con{{Name: "Cons", Arity: 1}}, api.ErrShape}, {"x : y", []api.Con{{Name: ":", Arity: 2}}, api.ErrScope},
		{"D", []api.Con{{Name: "D", Arity: 0}, {Name: "D", Arity: 1}}, api.OK}, {"D x", []api.Con{{Name: "D", Arity: 0}, {Name: "D", Arity: 1}}, api.ErrShape},
		{"D", []api.Con{{Name: "D", Arity: -1}}, api.ErrShape}, {"[D]", nil, api.ErrScope}, {"~D", nil, api.ErrScope}, {"x@D", nil, api.ErrScope},
	} {
		got, e := match.Pattern(x.cons, pattern(t, x.p), "w", variable("ok"), variable("no"))
		checkError(t, x.p, got, e, x.want)
	}
}

// P12.1: a constructor may have any number of parts that cons says it has.
func TestManyParts(t *testing.T) {
	for _, parts := range []int{0, 1, 32, 33, 200} {
		p := named(api.NdPCon, "Many", many(parts, anything())...)
		got, e := match.Pattern([]api.Con{{Name: "Many", Arity: parts}}, p, "w", variable("ok"), variable("no"))
		want := api.Expr{Kind: api.ExCase, Args: []api.Expr{variable("w")}, Alts: []api.Alt{{Kind: api.AltCon, Name: "Many", Vars: numbered("v", parts), E: variable("ok")}, {Kind: api.AltElse, E: variable("no")}}}
		checkSame(t, "many parts", got, e, want)
	}
}

// P12.1: a constructor that is an operator keeps its name, but for : .
func TestOperators(t *testing.T) {
	for name, want := range map[string]string{":+": ":+", ":": "Cons"} {
		p := named(api.NdPCon, name, anything(), anything())
		got, e := match.Pattern(cons(), p, "w", variable("ok"), variable("no"))
		if e != api.OK || got.Kind != api.ExCase || got.Alts[0].Name != want {
			t.Errorf("%s: %s, %v", name, core.Text(got), e)
		}
	}
}
