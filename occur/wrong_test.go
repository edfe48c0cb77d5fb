package occur_test

import (
	"strings"
	"testing"

	"thunkmill/api"
	"thunkmill/occur"
	"thunkmill/testkit"
)

// longIs holds each call to ErrLong, and to nothing beside it.
func longIs(t *testing.T, what string, e api.Expr) {
	t.Helper()
	for _, name := range names("x", "nowhere", "") {
		if got, err := occur.Of(e, name); got != 0 || err != api.ErrLong {
			t.Errorf("Of, %s: %s, error %d", what, word(got), err)
		}
		if got, err := occur.Count(e, name); got != 0 || err != api.ErrLong {
			t.Errorf("Count, %s: %d, error %d", what, got, err)
		}
	}
	if got, err := occur.All(e); len(got) != 0 || err != api.ErrLong {
		t.Errorf("All, %s: %d binders, error %d", what, len(got), err)
	}
}

// P16.1: too many expressions, or nested too deep, by each list of parts.
func TestTooGreat(t *testing.T) {
	for what, e := range testkit.TooGreat() {
		longIs(t, what, e)
	}
	x := variable("x")
	longIs(t, "a variable too deep", testkit.Nested(api.MaxNest+1, x))
	longIs(t, "a variable beside too many", api.Expr{Kind: api.ExApp, Args: list(x, testkit.Tree(api.MaxNodes-1))})
	longIs(t, "a name that is hidden", api.Expr{Kind: api.ExLam, Params: names("x", "nowhere", ""), Args: list(testkit.Tree(api.MaxNodes))})
	longIs(t, "what may not be besides", api.Expr{Kind: 77, Name: "a b", Params: names("x", "x"), Alts: []api.Alt{{Kind: 77, E: testkit.Tree(api.MaxNodes)}}})
}

// P16.1: of those that are just not too great all is told.
func TestGreatest(t *testing.T) {
	for what, e := range testkit.Greatest() {
		ofIs(t, e, "x", "dead")
		countIs(t, e, "x", 0)
		want := map[string]int{"many parts": 0, "many alternatives": 0, "many bindings": 1000, "deep by a lambda": api.MaxNest - 1, "deep by a case": api.MaxNest - 2, "deep by a let": api.MaxNest - 1}[what]
		if got := all(t, e); len(got) != want {
			t.Errorf("All, %s: %d binders instead of %d", what, len(got), want)
		}
	}
	y := variable("y")
	deepest := testkit.Nested(api.MaxNest, y)
	ofIs(t, deepest, "y", "lam")
	ofIs(t, deepest, "x", "dead")
	countIs(t, deepest, "y", 1)
	allIs(t, testkit.Nested(api.MaxNest, variable("x")), strings.Repeat("x dead, ", api.MaxNest-2)+"x once")
	wide := api.Expr{Kind: api.ExApp, Args: list(y, testkit.Tree(api.MaxNodes-3), y)}
	ofIs(t, wide, "y", "many")
	countIs(t, wide, "y", 2)
	allIs(t, wide, "")
}

// P16.1: of expressions that may not be Params hide in all of them, so do Binds' names, Vars in their alternative, whatever the kinds.
func TestHiddenInWhatMayNotBe(t *testing.T) {
	x, y := variable("x"), variable("y")
	for _, kind := range []int{-1, 0, api.ExVar, api.ExInt, api.ExChar, api.ExCon, api.ExApp, api.ExLet, api.ExCase, api.ExPrim, 10, 77} {
		binds := []api.Bind{{Name: "x", E: x}}
		for _, e := range []api.Expr{
			{Kind: kind, Params: names("x"), Args: list(x)}, {Kind: kind, Params: names("y", "x"), Alts: []api.Alt{{E: x}}}, {Kind: kind, Params: names("x"), Binds: []api.Bind{{Name: "y", E: x}}}, {Kind: kind, Name: "x", Params: names("x")},
			{Kind: kind, Binds: binds}, {Kind: kind, Binds: binds, Args: list(x)}, {Kind: kind, Binds: binds, Alts: []api.Alt{{E: x}}}, {Kind: kind, Name: "x", Binds: binds},
			{Kind: kind, Alts: []api.Alt{{Vars: names("x"), E: x}, {Vars: names("y", "x"), E: x}}}, {Kind: kind, Alts: []api.Alt{{Kind: api.AltInt, Vars: names("x"), E: x}, {Kind: 99, Vars: names("x"), E: x}, {Kind: api.AltElse, Vars: names("y", "x"), E: x}}},
		} {
			ofIs(t, e, "x", "dead")
			countIs(t, e, "x", 0)
		}
		// What hides stands in its own scope alone.
		ofIs(t, api.Expr{Kind: kind, Args: list(x), Alts: []api.Alt{{Vars: names("x"), E: x}}}, "x", "once")
		ofIs(t, api.Expr{Kind: kind, Alts: []api.Alt{{Vars: names("x"), E: x}, {E: x}}}, "x", "once")
		ofIs(t, api.Expr{Kind: api.ExApp, Args: list(api.Expr{Kind: kind, Params: names("x"), Binds: binds, Args: list(x)}, x)}, "x", "once")
		// Params and Binds make no lambda.
		ofIs(t, api.Expr{Kind: kind, Params: names("y"), Args: list(x)}, "x", "once")
		ofIs(t, api.Expr{Kind: kind, Binds: []api.Bind{{Name: "y", E: x}}}, "x", "once")
		allIs(t, api.Expr{Kind: kind, Params: names("x"), Args: list(x, y)}, "x once")
		allIs(t, api.Expr{Kind: kind, Params: names("x", "y"), Binds: []api.Bind{{Name: "a", E: x}}, Args: list(x), Alts: []api.Alt{{Vars: names("x"), E: x}, {Kind: 99, E: y}}}, "x many, y once, a dead, x once")
		allIs(t, api.Expr{Kind: api.ExLam, Params: names("z"), Args: list(api.Expr{Kind: kind, Params: names("x"), Args: list(x)})}, "z dead, x once")
	}
}

// P16.1: a lambda is what has the Kind ExLam, whatever else it has.
func TestLambdasThatMayNotBe(t *testing.T) {
	x, y := variable("x"), variable("y")
	lam := api.Expr{Kind: api.ExLam}
	with := func(change func(e *api.Expr)) api.Expr { e := lam; change(&e); return e }
	for _, e := range []api.Expr{
		with(func(e *api.Expr) { e.Args = list(x) }), with(func(e *api.Expr) { e.Args = list(y, x) }), with(func(e *api.Expr) { e.Binds = []api.Bind{{Name: "a", E: x}} }), with(func(e *api.Expr) { e.Alts = []api.Alt{{E: x}} }),
		with(func(e *api.Expr) { e.Alts = []api.Alt{{Vars: names("x"), E: x}, {Kind: api.AltElse, E: x}} }), with(func(e *api.Expr) { e.Params, e.Args = names("y"), list(api.Expr{Args: list(x)}) }),
	} {
		ofIs(t, e, "x", "lam")
		countIs(t, e, "x", 1)
	}
	both := []api.Alt{{Kind: api.AltInt, E: x}, {Kind: api.AltElse, E: x}}
	for _, e := range []api.Expr{with(func(e *api.Expr) { e.Args = list(x, x) }), with(func(e *api.Expr) { e.Alts = both }), with(func(e *api.Expr) { e.Args, e.Binds = list(x), []api.Bind{{Name: "a", E: x}} })} {
		ofIs(t, e, "x", "many")
		countIs(t, e, "x", 2)
	}
	ofIs(t, lam, "x", "dead")
	// A lambda is around its own names' scope, whichever list they stand in.
	allIs(t, with(func(e *api.Expr) { e.Binds, e.Args = []api.Bind{{Name: "a", E: number(1)}}, list(variable("a")) }), "a once")
	allIs(t, with(func(e *api.Expr) { e.Params, e.Alts = names("x"), both }), "x branch")
	allIs(t, with(func(e *api.Expr) { e.Alts = []api.Alt{{Vars: names("x", "y"), E: x}, {Vars: names("x"), E: lam}} }), "x once, y dead, x dead")
	allIs(t, with(func(e *api.Expr) {
		e.Params, e.Binds = names("x"), []api.Bind{{Name: "b", E: with(func(e *api.Expr) { e.Args = list(x) })}}
	}), "x lam, b dead")
}

// P16.1: variables with parts: the variable is one place, and stands in the scope of what it binds.
func TestVariablesWithParts(t *testing.T) {
	x := variable("x")
	with := func(change func(e *api.Expr)) api.Expr { e := x; change(&e); return e }
	ofIs(t, with(func(e *api.Expr) { e.Num = 7 }), "x", "once")
	ofIs(t, with(func(e *api.Expr) { e.Args = list(number(1)) }), "x", "once")
	ofIs(t, with(func(e *api.Expr) { e.Params = names("y") }), "x", "once")
	for _, e := range []api.Expr{with(func(e *api.Expr) { e.Args = list(x) }), with(func(e *api.Expr) { e.Alts = []api.Alt{{E: x}} }), with(func(e *api.Expr) { e.Binds = []api.Bind{{Name: "y", E: x}} })} {
		ofIs(t, e, "x", "many")
		countIs(t, e, "x", 2)
	}
	both := with(func(e *api.Expr) { e.Alts = []api.Alt{{E: x}, {E: x}} })
	ofIs(t, both, "x", "many")
	countIs(t, both, "x", 3)
	ofIs(t, api.Expr{Kind: api.ExCase, Args: list(number(1)), Alts: []api.Alt{{E: both}, {E: number(2)}}}, "x", "many")
	allIs(t, with(func(e *api.Expr) { e.Params = names("x") }), "x once")
	allIs(t, with(func(e *api.Expr) { e.Params, e.Args = names("x", "y"), list(x) }), "x many, y dead")
	allIs(t, with(func(e *api.Expr) { e.Binds = []api.Bind{{Name: "y", E: x}, {Name: "x"}} }), "y dead, x many")
}

// P16.1: Args and Alts on all kinds: Args are together with all others, alternatives are in no two.
func TestPartsOfWhatMayNotBe(t *testing.T) {
	x, one := variable("x"), number(1)
	for _, kind := range []int{-1, 0, api.ExInt, api.ExChar, api.ExCon, api.ExApp, api.ExLet, api.ExCase, api.ExPrim, 10, 77} {
		for want, l := range map[string][]api.Expr{
			"dead": {{Kind: kind}, {Kind: kind, Name: "x"}, {Kind: kind, Alts: []api.Alt{{Name: "x"}}}},
			"once": {{Kind: kind, Args: list(x)}, {Kind: kind, Args: list(one, x)}, {Kind: kind, Alts: []api.Alt{{E: x}}}, {Kind: kind, Binds: []api.Bind{{Name: "a", E: x}}}, {Kind: kind, Name: "x", Args: list(x)}},
			"many": {{Kind: kind, Args: list(x, x)}, {Kind: kind, Args: list(x, one, x)}, {Kind: kind, Args: list(one, x), Alts: []api.Alt{{E: one}, {E: x}}}, {Kind: kind, Args: list(x), Binds: []api.Bind{{Name: "a", E: x}}}, {Kind: kind, Binds: []api.Bind{{Name: "a", E: x}}, Alts: []api.Alt{{E: x}}}, {Kind: kind, Binds: []api.Bind{{Name: "a", E: x}, {Name: "b", E: x}}}},
			// An alternative counts as it would where it belongs: in a case.
			"branch": {{Kind: kind, Alts: []api.Alt{{E: x}, {E: x}}}, {Kind: kind, Args: list(one), Alts: []api.Alt{{Kind: api.AltElse, E: x}, {E: one}, {Kind: 99, E: x}}}, {Kind: kind, Args: list(api.Expr{Kind: kind, Alts: []api.Alt{{E: x}, {E: x}}}), Alts: []api.Alt{{E: one}}}},
			"lam":    {{Kind: kind, Args: list(read("(\\ y -> x)"))}, {Kind: kind, Alts: []api.Alt{{E: read("(\\ y -> x)")}}}},
		} {
			for _, e := range l {
				ofIs(t, e, "x", want)
				allIs(t, api.Expr{Kind: kind, Params: names("x"), Args: list(api.Expr{Args: list(e)})}, strings.Join(append(names("x "+want), bindersOf(t, e)...), ", "))
			}
		}
	}
}

// bindersOf are an expression's binders, each in a text.
func bindersOf(t *testing.T, e api.Expr) []string {
	var l []string
	for _, o := range all(t, e) {
		l = append(l, occText([]api.Occ{o}))
	}
	return l
}

// P16.1: a name that stands in Params and in Binds of one expression is asked for in both.
func TestNameInParamsAndBinds(t *testing.T) {
	x := variable("x")
	e := api.Expr{Kind: api.ExLet, Params: names("x", "y"), Binds: []api.Bind{{Name: "x", E: x}, {Name: "y", E: number(1)}}, Args: list(variable("y"))}
	allIs(t, e, "x once, y once, x once, y once")
	e.Args = list(x)
	allIs(t, e, "x many, y dead, x many, y dead")
}

// Names that no expression may have are asked for as any others.
func TestAnyName(t *testing.T) {
	for _, name := range []string{" ", "a b", "\x00", "\xff", "é", "\\", "->", "let", strings.Repeat("n", api.MaxSource), strings.Repeat("n", api.MaxSource+1)} {
		x := variable(name)
		ofIs(t, x, name, "once")
		ofIs(t, x, name+"'", "dead")
		ofIs(t, api.Expr{Kind: api.ExLam, Params: names(name), Args: list(x)}, name, "dead")
		countIs(t, api.Expr{Kind: api.ExApp, Args: list(x, variable("y"), x)}, name, 2)
		allIs(t, api.Expr{Kind: api.ExLam, Params: names(name), Args: list(x)}, name+" once")
	}
}

// What has no parts at all.
func TestZeroExpression(t *testing.T) {
	ofIs(t, api.Expr{}, "x", "dead")
	countIs(t, api.Expr{}, "x", 0)
	allIs(t, api.Expr{}, "")
	empty := api.Expr{Kind: api.ExVar, Name: "x", Params: []string{}, Binds: []api.Bind{}, Args: []api.Expr{}, Alts: []api.Alt{}}
	ofIs(t, empty, "x", "once")
	allIs(t, empty, "")
}
