package lift_test

import (
	"testing"

	"thunkmill/api"
	"thunkmill/core"
	"thunkmill/lift"
	"thunkmill/prep"
	"thunkmill/testkit"
)

// good is an expression that is known in any program.
func good() api.Expr { return read("(let f = (\\ x -> x) in (f 1))") }

// P19.1, P19.2: programs that may not be, whatever is wrong.
func TestProgramsThatMayNotBe(t *testing.T) {
	for what, x := range testkit.WrongProgs() {
		mayNotBe(t, what, x.P)
	}
	for what, e := range testkit.TooGreat() {
		mayNotBe(t, what, testkit.Together(good(), e))
		mayNotBe(t, what, testkit.Together(e, good()))
	}
}

func mayNotBe(t *testing.T, what string, p api.Prog) {
	t.Helper()
	refuses(t, what, p, api.ErrArg)
	if n := lift.Count(p); n != 0 {
		t.Errorf("Count, %s: %d", what, n)
	}
	for _, e := range append(list(good(), number(1), api.Expr{}), exprsOf(p)...) {
		if lift.Known(p, e) {
			t.Errorf("Known, %s: true", what)
		}
	}
}

// exprsOf are the expressions of a program's Binds.
func exprsOf(p api.Prog) []api.Expr {
	var l []api.Expr
	for _, b := range p.Binds {
		l = append(l, b.E)
	}
	return l
}

// P19.1, P19.2: a program that would be lifted, but for one thing.
func TestWouldBeLifted(t *testing.T) {
	of := func() api.Prog {
		return testkit.Prog("a = (let f = (\\ x -> x) in (f 1))", "main = (\\ y -> (let e = (\\ z -> y) in (e 2)))")
	}
	if p := of(); lift.Count(p) != 2 || len(lifted(t, p).Binds) != 4 {
		t.Fatalf("Count of %s: %d", brief(p), lift.Count(p))
	}
	for what, spoil := range map[string]func(p *api.Prog){
		"no main":             func(p *api.Prog) { p.Binds[1].Name = "mainly" },
		"no scope":            func(p *api.Prog) { p.Binds[0].E.Args[0].Args[0].Name = "nowhere" },
		"a name with a blank": func(p *api.Prog) { p.Binds[0].E.Binds[0].E.Params[0] = "x y" },
		"names that fall":     func(p *api.Prog) { p.Binds[0].Name = "z" },
		"no constructors":     func(p *api.Prog) { p.Cons = nil },
		"no such primitive":   func(p *api.Prog) { p.Binds[0].E = read("(#neg 1)") },
		"two bodies":          func(p *api.Prog) { p.Binds[0].E.Args = list(number(1), number(2)) },
		"too deep":            func(p *api.Prog) { p.Binds[0].E = testkit.Nested(api.MaxNest+1, number(1)) },
		"too great":           func(p *api.Prog) { p.Binds[0].E = testkit.Flat(api.MaxNodes) },
	} {
		p := of()
		spoil(&p)
		if core.Check(p) == api.OK {
			t.Errorf("%s: it may be", what)
		}
		mayNotBe(t, what, p)
	}
}

// P19.1, P19.2: programs that may be, and are not prepared; in them Known knows what is prepared itself.
func TestNotPrepared(t *testing.T) {
	for _, text := range []string{
		"(h (h 1))", "(Cons 1 (Nil))", "(\\ x -> (g x (\\ y -> y)))", "(let f = (\\ x -> x) in (f (f 1)))", "(#seq 1 (Nil))", "(#bind (#getc) h)", "(case 1 of 1 -> (h (Nil)))",
		"(\\ x -> (\\ x -> x))", "(#add (let f = (\\ x -> x) in (f 1)) (let f = (\\ y -> y) in (f 2)))", "(#add (let f = (\\ x -> x) in (f 1)) (let e = (\\ x -> x) in (e 2)))", "(\\ main -> main)", "(let k = (\\ x -> x) in (k 1))", "(let f = (\\ f -> 1) in 2)", "(case 1 of Cons h x -> x)",
	} {
		p := program(text)
		if core.Check(p) != api.OK || prep.Prepared(p) {
			t.Errorf("%s: Check is %d, Prepared %v", text, core.Check(p), prep.Prepared(p))
		}
		refuses(t, text, p, api.ErrArg)
		if n := lift.Count(p); n != 0 {
			t.Errorf("Count of %s: %d", text, n)
		}
		if !lift.Known(p, good()) {
			t.Errorf("Known in %s: false", text)
		}
	}
}

// P19.2: what is no let is not known, nor what is not prepared.
func TestNotKnowable(t *testing.T) {
	for _, text := range []string{
		"x", "1", "'97'", "(Nil)", "(Cons 1 2)", "(\\ x -> x)", "(f 1)", "(case 1 of 1 -> 2)", "(#add 1 2)", "(\\ x -> (let f = (\\ y -> y) in (f 1)))", "((let f = (\\ y -> y) in (f 1)) 2)", "(case (let f = (\\ y -> y) in (f 1)) of _ -> 1)",
		"(let f = (\\ x -> x) in (f (f 1)))", "(let f = (\\ x -> (f (h 1))) in (f 1))", "(let f = (\\ x -> x) in (Cons 1 (f 2)))", "(let f = (\\ x -> (Blue (Nil))) in 1)", "(let f = (\\ x -> x); e = (\\ y -> (#seq y (f y))) in (e 1))", "(let f = (\\ x -> x) in (case (f (f 1)) of _ -> 1))", "(let f = (\\ x -> x) in (case 1 of _ -> (f (f 1))))",
	} {
		knows(t, text, false)
	}
	for what, e := range testkit.TooGreat() {
		let := good()
		let.Args = list(e)
		inBind := good()
		inBind.Binds[0].E.Args = list(e)
		for _, e := range list(e, let, inBind) {
			if lift.Known(program("1"), e) {
				t.Errorf("Known, %s: true", what)
			}
		}
	}
	for what, x := range testkit.WrongExprs() {
		lift.Known(program("1"), x.E) // it ends, whatever it tells
		let := good()
		let.Args = list(x.E)
		if is := lift.Known(program("1"), let); is != prep.Normal(let) {
			t.Errorf("Known, %s: %v", what, is)
		}
	}
}

// P19.2: a let of as many expressions as there may be, and of one that is nested as deep, is known; one more, and it is not.
func TestGreatestKnown(t *testing.T) {
	let := func(body api.Expr) api.Expr {
		e := good()
		e.Args = list(body)
		return e
	}
	for more := range 2 {
		for what, e := range map[string]api.Expr{"great": let(testkit.Flat(api.MaxNodes - 3 + more)), "deep": let(testkit.Nested(api.MaxNest-1+more, number(1)))} {
			if is := lift.Known(program("1"), e); is != (more == 0) {
				t.Errorf("Known, %s and %d more: %v", what, more, is)
			}
		}
	}
}

// Whatever a let has that may not be, Known ends, and no other call tells anything of it.
func TestLetsThatMayNotBe(t *testing.T) {
	f := api.Bind{Name: "f", E: read("(\\ x -> x)")}
	for what, e := range map[string]api.Expr{
		"nothing":                   {Kind: api.ExLet},
		"no Binds":                  {Kind: api.ExLet, Args: list(number(1))},
		"no body":                   {Kind: api.ExLet, Binds: []api.Bind{f}},
		"two bodies":                {Kind: api.ExLet, Binds: []api.Bind{f}, Args: list(read("(f 1)"), read("(f 2)"))},
		"a name twice":              {Kind: api.ExLet, Binds: []api.Bind{f, f}, Args: list(read("(f 1)"))},
		"an application of nothing": {Kind: api.ExLet, Binds: []api.Bind{f}, Args: list(api.Expr{Kind: api.ExApp})},
		"an application to nothing": {Kind: api.ExLet, Binds: []api.Bind{f}, Args: list(api.Expr{Kind: api.ExApp, Args: list(variable("f"))})},
		"no Params":                 {Kind: api.ExLet, Binds: []api.Bind{{Name: "f", E: api.Expr{Kind: api.ExLam}}}, Args: list(number(1))},
		"a right side of nothing":   {Kind: api.ExLet, Binds: []api.Bind{{Name: "f", E: api.Expr{Kind: api.ExLet}}}, Args: list(number(1))},
		"a function of nothing":     {Kind: api.ExLet, Binds: []api.Bind{f}, Args: list(api.Expr{Kind: api.ExApp, Args: list(api.Expr{Kind: api.ExLet}, number(1))})},
		"a kind that is none":       {Kind: api.ExLet, Binds: []api.Bind{f}, Args: list(api.Expr{Kind: 10})},
	} {
		lift.Known(program("1"), e)
		mayNotBe(t, what, testkit.Together(e, number(1)))
	}
}
