package occur_test

import (
	"testing"

	"thunkmill/api"
)

// P16.1: a name that an inner scope hides, there and there alone.
func TestHidden(t *testing.T) {
	for text, want := range map[string]string{
		"(\\ x -> x)": "dead", "(\\ y x z -> (x x))": "dead", "((\\ x -> x) x)": "once", "(x (\\ x -> x))": "once", "((\\ x -> x) 1)": "dead", "(\\ y -> (x (\\ x -> x)))": "lam",
		"(let x = 1 in x)": "dead", "(let x = x in 1)": "dead", "(let a = x; x = 1 in a)": "dead", "(let x = 1; a = x in a)": "dead", "(x (let x = x in x))": "once", "((let x = 1 in x) x)": "once", "(let a = (let x = x in x) in x)": "once", "(let a = x in (let x = 1 in x))": "once", "(let a = x in (let x = 1 in (x a)))": "once",
		"(case z of x -> x)": "dead", "(case x of x -> x)": "once", "(case z of Cons x y -> x)": "dead", "(case z of Cons y x -> (x x); Nil -> 1)": "dead", "(case z of Cons x y -> x; Nil -> x)": "once", "(case z of Cons x y -> x; Nil -> x; _ -> x)": "branch", "(case x of Cons x y -> x; _ -> 1)": "once", "(case z of 1 -> x; x -> x)": "once", "(case z of 1 -> x; x -> (x x x); _ -> x)": "branch", "(case z of Cons x y -> (\\ z -> x); _ -> (\\ z -> x))": "lam",
		"(\\ y -> (case z of x -> (let x = x in x)))": "dead", "(case (\\ x -> x) of 1 -> (let x = 1 in x); x -> x)": "dead",
	} {
		ofIs(t, read(text), "x", want)
	}
}

// P16.1: a name that is bound again further in: each binder has what stands in its scope, but for the inner one's.
func TestBoundAgain(t *testing.T) {
	for text, want := range map[string]string{
		"(\\ x -> (\\ x -> x))":                         "x dead, x once",
		"(\\ x -> (x (\\ x -> (x x))))":                 "x once, x many",
		"(\\ x -> (x (\\ x -> (\\ y -> x)) x))":         "x many, x lam, y dead",
		"(\\ x -> ((\\ x -> 1) (\\ y -> x)))":           "x lam, x dead, y dead",
		"(let x = (let x = x in x) in x)":               "x once, x many",
		"(let x = x in (let x = 1 in x))":               "x once, x once",
		"(case x of x -> (case x of x -> (x x)))":       "x once, x many",
		"(case x of Cons x y -> x; x -> (x x); _ -> x)": "x once, y dead, x many",
		"(\\ x -> (case x of 1 -> x; x -> (x x)))":      "x many, x many",
		"(\\ x -> (case z of 1 -> x; x -> x; _ -> x))":  "x branch, x once",
		"(\\ x -> (let x = 1 in (case x of x -> x)))":   "x dead, x once, x once",
		"((\\ x -> (\\ x -> (x x))) (\\ x -> x))":       "x dead, x many, x once",
		"(\\ x y -> (\\ y z -> (x y z)))":               "x lam, y dead, y once, z once",
	} {
		allIs(t, read(text), want)
	}
	ofIs(t, read("(x (\\ x -> (x (\\ x -> x))))"), "x", "once")
	countIs(t, read("(x (\\ x -> (x (\\ x -> x))) x)"), "x", 2)
}

// P16.1: a let's binding that needs itself, or another one, ahead of it or behind: all of them are in the scope together.
func TestLetsThatNeedThemselves(t *testing.T) {
	for text, want := range map[string]string{
		"(let x = x in 1)": "x once", "(let x = x in x)": "x many", "(let x = (x x) in 1)": "x many", "(let x = (\\ y -> x) in 1)": "x lam, y dead", "(let x = (\\ y -> x) in x)": "x many, y dead", "(let x = (case z of 1 -> x; _ -> x) in 1)": "x branch", "(let x = (case z of 1 -> x; _ -> x) in x)": "x many", "(let x = (case z of 1 -> x; _ -> 2) in (case z of 1 -> 3; _ -> x))": "x many",
		"(let a = b; b = a in 1)": "a once, b once", "(let a = b; b = a in a)": "a many, b once", "(let a = b; b = 1 in 1)": "a dead, b once", "(let a = 1; b = a in 1)": "a once, b dead", "(let a = b; b = (\\ y -> a); c = a in c)": "a many, b once, c once, y dead",
	} {
		allIs(t, read(text), want)
	}
	for text, want := range map[string]string{"(let a = x; b = x in 1)": "many", "(let a = x; b = a in b)": "once", "(let a = (f a x) in 1)": "once", "(let a = b; b = x in x)": "many"} {
		ofIs(t, read(text), "x", want)
	}
}

// P16.1: the same name twice in one list is asked for twice, with what stands in the scope.
func TestTwiceInOneList(t *testing.T) {
	x := variable("x")
	app := func(l ...api.Expr) api.Expr { return api.Expr{Kind: api.ExApp, Args: l} }
	lam := func(body api.Expr, l ...string) api.Expr {
		return api.Expr{Kind: api.ExLam, Params: l, Args: list(body)}
	}
	allIs(t, lam(x, "x", "x"), "x once, x once")
	allIs(t, lam(number(1), "x", "x"), "x dead, x dead")
	allIs(t, lam(app(x, x), "x", "y", "x"), "x many, y dead, x many")
	allIs(t, lam(lam(x, "y"), "x", "x"), "x lam, x lam, y dead")
	allIs(t, lam(app(lam(x, "x", "x"), x), "x", "x", "x"), "x once, x once, x once, x once, x once")
	let := api.Expr{Kind: api.ExLet, Binds: []api.Bind{{Name: "x", E: read("(case z of 1 -> x; _ -> x)")}, {Name: "x", E: number(1)}}, Args: list(number(2))}
	allIs(t, let, "x branch, x branch")
	let.Args[0] = x
	allIs(t, let, "x many, x many")
	alts := api.Expr{Kind: api.ExCase, Args: list(x), Alts: []api.Alt{{Kind: api.AltCon, Name: "Cons", Vars: names("x", "x"), E: x}, {Kind: api.AltElse, Vars: names("x", "y", "x"), E: app(x, x)}}}
	allIs(t, alts, "x once, x once, x many, y dead, x many")
	allIs(t, lam(app(alts, x), "x", "x"), "x many, x many, x once, x once, x many, y dead, x many")
	for _, e := range []api.Expr{lam(x, "x", "x"), lam(app(x, x), "x", "y", "x"), let} {
		ofIs(t, e, "x", "dead")
		countIs(t, e, "x", 0)
	}
	ofIs(t, alts, "x", "once")
	// Behind the scope the name is what it was.
	ofIs(t, app(lam(x, "x", "x"), x), "x", "once")
	ofIs(t, app(alts, let, x), "x", "many")
	countIs(t, app(alts, let, x), "x", 2)
}

// P16.1: an empty name is a name as any other.
func TestEmptyName(t *testing.T) {
	none := variable("")
	lam := api.Expr{Kind: api.ExLam, Params: names(""), Args: list(none)}
	for _, x := range []struct {
		e     api.Expr
		want  string
		count int
	}{
		{none, "once", 1}, {number(1), "dead", 0}, {variable("x"), "dead", 0}, {read("(f 1 (Nil) (\\ x -> x))"), "dead", 0}, {lam, "dead", 0}, {api.Expr{}, "dead", 0},
		{api.Expr{Kind: api.ExLam, Params: names("y"), Args: list(none)}, "lam", 1}, {api.Expr{Kind: api.ExApp, Args: list(none, lam, none)}, "many", 2},
		{api.Expr{Kind: api.ExCase, Args: list(number(1)), Alts: []api.Alt{{Kind: api.AltInt, Num: 1, E: none}, {Kind: api.AltElse, E: none}}}, "branch", 2},
		{api.Expr{Kind: api.ExCase, Args: list(none), Alts: []api.Alt{{Kind: api.AltElse, Vars: names(""), E: none}}}, "once", 1},
	} {
		ofIs(t, x.e, "", x.want)
		countIs(t, x.e, "", x.count)
	}
	allIs(t, lam, " once")
	allIs(t, api.Expr{Kind: api.ExLet, Binds: []api.Bind{{E: none}}, Args: list(none)}, " many")
}

// P16.1: an expression that has no binders and none of the name.
func TestNothingThere(t *testing.T) {
	for _, text := range []string{"1", "'0'", "y", "(f y z)", "(Cons 1 (Nil))", "(#add 1 2)", "(#getc)", "(case y of 1 -> 2; _ -> z)", "(case y of Nil -> 1)"} {
		ofIs(t, read(text), "x", "dead")
		countIs(t, read(text), "x", 0)
		allIs(t, read(text), "")
	}
	// Names that are alike are others.
	for _, name := range []string{"X", "xx", "x ", "", "x'", "%no"} {
		ofIs(t, read("(x (\\ y -> x))"), name, "dead")
		countIs(t, read("(x (\\ y -> x))"), name, 0)
	}
}
