package simpl_test

import (
	"testing"

	"thunkmill/api"
	"thunkmill/core"
	"thunkmill/simpl"
	"thunkmill/testkit"
)

// allAre holds each call on an expression to an error, and to nothing beside it, whatever else is wrong.
func allAre(t *testing.T, what string, e api.Expr, want api.Errno) {
	t.Helper()
	for _, at := range []int{0, 1, -1, 1 << 40} {
		if got, err := simpl.At(e, at); !isZero(got) || err != want {
			t.Errorf("At %d, %s: error %d, want %d", at, what, err, want)
		}
		for _, rule := range []int{api.RuleDead, api.RuleFold, 0, 13} {
			if is, err := simpl.Applies(e, at, rule); is || err != want {
				t.Errorf("Applies, %s: %v, error %d, want %d", what, is, err, want)
			}
			if got, err := simpl.Rewrite(e, at, rule); !isZero(got) || err != want {
				t.Errorf("Rewrite, %s: error %d, want %d", what, err, want)
			}
		}
	}
	for _, most := range []int{0, 1, api.MaxRewrites, -1, api.MaxRewrites + 1} {
		if got, n, err := simpl.Pass(e, most); !isZero(got) || n != 0 || err != want {
			t.Errorf("Pass, %s: %d, error %d, want %d", what, n, err, want)
		}
	}
}

// tooMuch are expressions that are just too great or too deep, and some far more so.
func tooMuch() map[string]api.Expr {
	l := testkit.Great(maxSize + 1)
	for what, e := range testkit.Deep(maxDeep + 1) {
		l[what] = e
	}
	for what, e := range testkit.TooGreat() {
		l["far: "+what] = e
	}
	l["a variable too deep"] = testkit.Nested(maxDeep+1, variable("y"))
	l["deep by parts"] = growing(maxDeep)
	return l
}

const maxSize, maxDeep = 20000, 1000

// P17.1, P17.2: too many expressions, or nested too deep.
func TestTooMuch(t *testing.T) {
	for what, e := range tooMuch() {
		allAre(t, what, e, api.ErrLong)
	}
	// What may not be besides.
	bad := api.Expr{Kind: 77, Name: "a b", Args: list(testkit.Tree(maxSize))}
	allAre(t, "of a kind that is none", bad, api.ErrLong)
	allAre(t, "with a primitive that is none", api.Expr{Kind: api.ExPrim, Name: "none", Args: list(testkit.Tree(maxSize))}, api.ErrLong)
	allAre(t, "deep in what may not be", testkit.Nested(maxDeep, api.Expr{Alts: []api.Alt{{}}}), api.ErrLong)
}

// P17.1, P17.2: of those that are just not too great, nor too deep, all is told.
func TestAsMuchAsMayBe(t *testing.T) {
	l := testkit.Great(maxSize)
	for what, e := range testkit.Deep(maxDeep) {
		l[what] = e
	}
	l["deep by parts"] = growing(maxDeep - 1)
	for what, e := range l {
		n := core.Size(e)
		if got, err := simpl.At(e, n-1); got.Kind != api.ExInt || err != api.OK {
			t.Errorf("At %d, %s: %s, error %d", n-1, what, brief(got), err)
		}
		if _, err := simpl.At(e, n); err != api.ErrArg {
			t.Errorf("At %d, %s: error %d", n, what, err)
		}
		for _, at := range []int{0, n - 1} {
			for _, rule := range allRules() {
				if applies(t, e, at, rule) {
					rewritten(t, e, at, rule)
				} else if _, err := simpl.Rewrite(e, at, rule); err != api.ErrState {
					t.Errorf("Rewrite %s at %d, %s: error %d", simpl.Name(rule), at, what, err)
				}
			}
		}
		passed(t, e, 3)
	}
}

// mayNotBe are expressions that are not as the table of chapter 7 says.
func mayNotBe() map[string]api.Expr {
	one, x := number(1), variable("x")
	alt := func(l ...api.Alt) api.Expr { return api.Expr{Kind: api.ExCase, Args: list(one), Alts: l} }
	l := map[string]api.Expr{
		"nothing":                     {},
		"a kind that is none":         {Kind: 10},
		"a kind below all":            {Kind: -1},
		"a variable without a name":   {Kind: api.ExVar},
		"a name with a blank":         variable("a b"),
		"a variable with a part":      {Kind: api.ExVar, Name: "x", Args: list(one)},
		"a variable with a number":    {Kind: api.ExVar, Name: "x", Num: 1},
		"a number with a name":        {Kind: api.ExInt, Name: "x"},
		"a character above all":       {Kind: api.ExChar, Num: 256},
		"a character below 0":         {Kind: api.ExChar, Num: -1},
		"a constructor with names":    {Kind: api.ExCon, Name: "Nil", Params: []string{"x"}},
		"a lambda without names":      {Kind: api.ExLam, Args: list(x)},
		"a lambda without a body":     {Kind: api.ExLam, Params: []string{"x"}},
		"a lambda with two bodies":    {Kind: api.ExLam, Params: []string{"x"}, Args: list(x, x)},
		"a lambda with a name twice":  {Kind: api.ExLam, Params: []string{"x", "x"}, Args: list(x)},
		"an application of nothing":   {Kind: api.ExApp, Args: list(x)},
		"an application without":      {Kind: api.ExApp},
		"a let without bindings":      {Kind: api.ExLet, Args: list(x)},
		"a let without a body":        {Kind: api.ExLet, Binds: []api.Bind{{Name: "x", E: one}}},
		"a let with a name twice":     {Kind: api.ExLet, Binds: []api.Bind{{Name: "x", E: one}, {Name: "x", E: one}}, Args: list(x)},
		"a case without alternatives": {Kind: api.ExCase, Args: list(x)},
		"a case of nothing":           {Kind: api.ExCase, Alts: []api.Alt{{Kind: api.AltElse, E: one}}},
		"a primitive with binds":      {Kind: api.ExPrim, Name: "getc", Binds: []api.Bind{{Name: "x", E: one}}},
		"alternatives of two kinds":   alt(api.Alt{Kind: api.AltInt, E: one}, api.Alt{Kind: api.AltChar, E: one}),
		"an alternative twice":        alt(api.Alt{Kind: api.AltInt, E: one}, api.Alt{Kind: api.AltInt, E: one}),
		"an else ahead":               alt(api.Alt{Kind: api.AltElse, E: one}, api.Alt{Kind: api.AltInt, E: one}),
		"an else with two names":      alt(api.Alt{Kind: api.AltElse, Vars: []string{"x", "y"}, E: one}),
		"an alternative's name twice": alt(api.Alt{Kind: api.AltCon, Name: "Cons", Vars: []string{"x", "x"}, E: one}),
		"an alternative of no kind":   alt(api.Alt{Kind: 5, E: one}),
		"an alternative of nothing":   alt(api.Alt{Kind: api.AltElse}),
	}
	args := list(x)
	for range 33 {
		args = append(args, one)
	}
	l["an application to 33 arguments"] = api.Expr{Kind: api.ExApp, Args: args}
	for name, n := range map[string]int{"add": 2, "chr": 1, "seq": 2, "error": 1, "getc": 0, "eof": 0, "bind": 2, "exit": 1} {
		l[name+" with one more"] = api.Expr{Kind: api.ExPrim, Name: name, Args: args[:n+1]}
		if n > 0 {
			l[name+" with one fewer"] = api.Expr{Kind: api.ExPrim, Name: name, Args: args[:n-1]}
		}
	}
	l["a primitive that is none"] = api.Expr{Kind: api.ExPrim, Name: "none", Args: list(one)}
	l["a primitive that is none, without"] = api.Expr{Kind: api.ExPrim, Name: "none"}
	return l
}

// P17.1, P17.2: an expression that is not as the table says, by itself, and as each part of another one.
func TestMayNotBe(t *testing.T) {
	one := number(1)
	for what, e := range mayNotBe() {
		for where, whole := range map[string]api.Expr{
			"": e, " as an argument": {Kind: api.ExApp, Args: list(one, e)}, " as a body": {Kind: api.ExLam, Params: []string{"x"}, Args: list(e)}, " as a binding": {Kind: api.ExLet, Binds: []api.Bind{{Name: "x", E: e}}, Args: list(one)},
			" in a let": {Kind: api.ExLet, Binds: []api.Bind{{Name: "x", E: one}}, Args: list(e)}, " in a case": {Kind: api.ExCase, Args: list(e), Alts: []api.Alt{{Kind: api.AltElse, E: one}}}, " as an alternative": {Kind: api.ExCase, Args: list(one), Alts: []api.Alt{{Kind: api.AltElse, E: e}}},
			" in a primitive": {Kind: api.ExPrim, Name: "add", Args: list(one, e)}, " in a constructor": {Kind: api.ExCon, Name: "Any", Args: list(one, e)},
		} {
			allAre(t, what+where, whole, api.ErrArg)
		}
	}
}

// P17.1: whatever its constructors and variables are.
func TestWhateverConstructors(t *testing.T) {
	for _, text := range []string{"(Cons 1)", "(Nil 1 2)", "(None)", "(None 1 2 3)", "nowhere", "(\\ x -> nowhere)", "(case 1 of Cons a -> a; None a b -> b; _ -> 2)", "(case 1 of True -> 1; Nil -> 2)", "(case 1 of None -> 1; Other a b c d -> 2)"} {
		e := read("(let x = (f 1) in (x (\\ y -> (y " + text + "))))")
		if got, err := simpl.At(e, 9); core.Text(got) != text || err != api.OK {
			t.Errorf("At 9 of %s: %s, error %d", brief(e), brief(got), err)
		}
		becomes(t, e, 0, api.RuleOnce, "((f 1) (\\ y -> (y "+text+")))")
		becomes(t, e, 0, api.RuleDead, "")
		passIs(t, e, 1, "((f 1) (\\ y -> (y "+text+")))", 1)
	}
}

// P17.1: positions that are none, rules that are none, in whatever order.
func TestNoPosition(t *testing.T) {
	e, all := ofAllKinds()
	for _, at := range []int{-1, len(all), len(all) + 1, 1 << 40, -1 << 63, 1<<63 - 1} {
		for _, rule := range []int{-1, 0, api.RuleDead, api.RuleCaseLet, api.RuleCaseLet + 1} {
			errIs(t, e, at, rule, api.ErrArg)
		}
	}
	for _, rule := range []int{-1, 0, api.RuleCaseLet + 1, api.RuleCaseLet + 2, 1 << 40, -1 << 63, 1<<63 - 1} {
		for at := range all {
			errIs(t, e, at, rule, api.ErrArg)
		}
	}
	for at := range all {
		for _, rule := range allRules() {
			if !applies(t, e, at, rule) {
				becomesExpr(t, e, at, rule, api.Expr{})
			}
		}
	}
}

// errIs holds Applies and Rewrite to one error.
func errIs(t *testing.T, e api.Expr, at, rule int, want api.Errno) {
	t.Helper()
	if is, err := simpl.Applies(e, at, rule); is || err != want {
		t.Errorf("Applies %d at %d of %s: %v, error %d, want %d", rule, at, brief(e), is, err, want)
	}
	if got, err := simpl.Rewrite(e, at, rule); !isZero(got) || err != want {
		t.Errorf("Rewrite %d at %d of %s: %s, error %d, want %d", rule, at, brief(e), brief(got), err, want)
	}
}

// P17.2: how many rewritings there may be.
func TestMostThatMayNotBe(t *testing.T) {
	e, p := read("(#add 1 2)"), testkit.Prog("main = (#exit (#add 1 2))")
	for _, most := range []int{-1, api.MaxRewrites + 1, -1 << 63, 1<<63 - 1, 1 << 40} {
		if got, n, err := simpl.Pass(e, most); !isZero(got) || n != 0 || err != api.ErrArg {
			t.Errorf("Pass, %d: %s, %d, error %d", most, brief(got), n, err)
		}
		programErr(t, "most", p, most, api.ErrArg)
	}
	passIs(t, e, 0, "(#add 1 2)", 0)
	passIs(t, e, api.MaxRewrites, "3", 1)
	programIs(t, p, 0, p, 0)
	programIs(t, p, api.MaxRewrites, testkit.Prog("main = (#exit 3)"), 1)
}

// programErr holds Program to an error, and to nothing beside it.
func programErr(t *testing.T, what string, p api.Prog, most int, want api.Errno) {
	t.Helper()
	if got, n, err := simpl.Program(p, most); len(got.Cons)+len(got.Binds) != 0 || n != 0 || err != want {
		t.Errorf("Program, %s, %d: %.300s, %d, error %d, want %d", what, most, core.ProgText(got), n, err, want)
	}
}

// P17.2: of a program core.Check's error comes first.
func TestProgramThatMayNotBe(t *testing.T) {
	for what, x := range testkit.WrongProgs() {
		for _, most := range []int{0, 10, -1, api.MaxRewrites + 1} {
			programErr(t, what, x.P, most, x.Err)
		}
	}
	for what, e := range map[string]api.Expr{"great": testkit.Tree(maxSize + 1), "deep": testkit.Nested(maxDeep+1, number(1))} {
		p := testkit.Prog("a = 1", "mainly = 1")
		p.Binds[0].E = e
		programErr(t, "no main, too "+what+" a binding", p, 10, api.ErrMain)
		p.Binds[1].E = variable("x")
		programErr(t, "no scope, too "+what+" a binding", p, 10, api.ErrScope)
	}
	programIs(t, testkit.Prog("a = 1", "main = (#exit (#add 1 2))"), 5, testkit.Prog("a = 1", "main = (#exit 3)"), 1)
}

// P17.2: a program one of whose bindings is too great or too deep, though the program is not.
func TestBindingTooGreat(t *testing.T) {
	with := func(e api.Expr) api.Prog {
		p := testkit.Prog("a = (#add 1 2)", "main = (#exit 1)", "z = 1")
		p.Binds[2].E = e
		return p
	}
	for what, e := range testkit.Great(maxSize + 1) {
		programErr(t, what, with(e), 0, api.ErrLong)
		programErr(t, what, with(e), 10, api.ErrLong)
		programErr(t, what, with(e), -1, api.ErrArg)
		programErr(t, what, with(e), api.MaxRewrites+1, api.ErrArg)
	}
	for what, e := range testkit.Deep(maxDeep + 1) {
		programErr(t, what, with(e), 0, api.ErrLong)
		programErr(t, what, with(e), 10, api.ErrLong)
	}
	for _, e := range []api.Expr{testkit.Great(maxSize)["many parts"], testkit.Nested(maxDeep, number(1))} {
		programIs(t, with(e), 0, with(e), 0)
	}
	// Each binding may be as great as one may be.
	p := testkit.Prog("a = 1", "b = 1", "main = 1")
	for i := range p.Binds {
		p.Binds[i].E = testkit.Tree(maxSize)
	}
	programIs(t, p, 0, p, 0)
}
