package match_test

import (
	"strconv"
	"strings"
	"testing"

	"thunkmill/api"
	"thunkmill/core"
	"thunkmill/match"
)

// asTold are expressions that are as core's table says, whatever their constructors and variables are.
func asTold(t *testing.T) []api.Expr {
	t.Helper()
	var l []api.Expr
	for _, text := range []string{
		"x", "%no", "1", "-1", "'0'", "'255'", "(Nil)", "(Cons 1)", "(Cons 1 2 3)", "(Zoe x)", "(\\ x -> y)", "(f x)", "(let x = y in z)", "(let x = 1; y = x in (x y))",
		"(case x of 1 -> a; 2 -> b; z -> z)", "(case x of '1' -> a; _ -> b)", "(case x of _ -> b)", "(case x of True -> a; Nil -> b; Zoe p q -> c)", "(case x of Cons p -> a)", "(case x of Nil a b c -> a)",
		"(#add 1 2)", "(#getc)", "(#seq x y)", "failure", "(\\ x -> (let y = (case x of B z -> (f z x (#ord '1'))) in (C y)))",
	} {
		l = append(l, expr(t, text))
	}
	lambda := api.Expr{Kind: api.ExLam, Params: numbered("p", api.MaxParams), Args: many(1, number(1))}
	great := api.Expr{Kind: api.ExCon, Name: "Great", Args: many(1000, number(1))}
	return append(l, lambda, great, api.Expr{Kind: api.ExApp, Args: many(api.MaxParams+1, variable("x"))}, variable(strings.Repeat("n", api.MaxSource)))
}

// notAsTold are expressions that are not.
func notAsTold(t *testing.T) []api.Expr {
	t.Helper()
	one := many(1, number(1))
	alts := func(l ...api.Alt) api.Expr {
		for i := range l {
			l[i].E = number(1)
		}
		return api.Expr{Kind: api.ExCase, Args: many(1, number(1)), Alts: l}
	}
	l := []api.Expr{
		{}, {Kind: -1}, {Kind: 10}, {Kind: api.ExVar}, {Kind: api.ExVar, Name: "a b"}, {Kind: api.ExVar, Name: strings.Repeat("n", api.MaxSource+1)}, {Kind: api.ExVar, Name: "x", Num: 1}, {Kind: api.ExVar, Name: "x", Args: one},
		{Kind: api.ExInt, Name: "x"}, {Kind: api.ExInt, Params: []string{"x"}}, {Kind: api.ExChar, Num: 256}, {Kind: api.ExChar, Num: -1}, {Kind: api.ExChar, Args: one},
		{Kind: api.ExCon}, {Kind: api.ExCon, Name: "\x80"}, {Kind: api.ExCon, Name: "C", Num: 1}, {Kind: api.ExCon, Name: "C", Binds: []api.Bind{{Name: "x", E: number(1)}}},
		{Kind: api.ExLam, Args: one}, {Kind: api.ExLam, Params: []string{"x"}}, {Kind: api.ExLam, Params: []string{"x"}, Args: many(2, number(1))}, {Kind: api.ExLam, Params: []string{"x", "x"}, Args: one}, {Kind: api.ExLam, Params: []string{""}, Args: one}, {Kind: api.ExLam, Params: numbered("p", api.MaxParams+1), Args: one}, {Kind: api.ExLam, Params: []string{"x"}, Args: one, Name: "f"},
		{Kind: api.ExApp}, {Kind: api.ExApp, Args: one}, {Kind: api.ExApp, Args: many(api.MaxParams+2, variable("x"))}, {Kind: api.ExApp, Args: many(2, number(1)), Num: 1},
		{Kind: api.ExLet, Args: one}, {Kind: api.ExLet, Binds: []api.Bind{{Name: "x", E: number(1)}}}, {Kind: api.ExLet, Binds: []api.Bind{{Name: "x", E: number(1)}, {Name: "x", E: number(1)}}, Args: one}, {Kind: api.ExLet, Binds: []api.Bind{{Name: "x", E: number(1)}, {E: number(1)}}, Args: one}, {Kind: api.ExLet, Binds: []api.Bind{{Name: "x", E: number(1)}}, Args: one, Params: []string{"y"}},
		{Kind: api.ExCase, Args: one}, {Kind: api.ExCase, Alts: []api.Alt{{Kind: api.AltElse, E: number(1)}}}, {Kind: api.ExCase, Args: many(2, number(1)), Alts: []api.Alt{{Kind: api.AltElse, E: number(1)}}},
		alts(api.Alt{}), alts(api.Alt{Kind: 5}), alts(api.Alt{Kind: api.AltCon}), alts(api.Alt{Kind: api.AltCon, Name: "B", Vars: []string{"x", "x"}}), alts(api.Alt{Kind: api.AltCon, Name: "B", Vars: []string{" "}}), alts(api.Alt{Kind: api.AltCon, Name: "B", Num: 1}),
		alts(api.Alt{Kind: api.AltInt, Name: "B"}), alts(api.Alt{Kind: api.AltInt, Vars: []string{"x"}}), alts(api.Alt{Kind: api.AltChar, Num: 256}), alts(api.Alt{Kind: api.AltElse, Vars: []string{"x", "y"}}), alts(api.Alt{Kind: api.AltElse, Num: 1}),
		alts(api.Alt{Kind: api.AltElse}, api.Alt{Kind: api.AltElse}), alts(api.Alt{Kind: api.AltElse}, api.Alt{Kind: api.AltInt}), alts(api.Alt{Kind: api.AltInt}, api.Alt{Kind: api.AltChar}), alts(api.Alt{Kind: api.AltInt, Num: 1}, api.Alt{Kind: api.AltInt, Num: 2}, api.Alt{Kind: api.AltInt, Num: 1}),
		alts(api.Alt{Kind: api.AltCon, Name: "B"}, api.Alt{Kind: api.AltCon, Name: "A"}, api.Alt{Kind: api.AltCon, Name: "B", Vars: []string{"x"}}), alts(api.Alt{Kind: api.AltChar, Num: 3}, api.Alt{Kind: api.AltElse}, api.Alt{Kind: api.AltChar, Num: 4}),
		{Kind: api.ExPrim}, {Kind: api.ExPrim, Name: "zoe"}, {Kind: api.ExPrim, Name: "add", Args: one}, {Kind: api.ExPrim, Name: "add", Args: many(3, number(1))}, {Kind: api.ExPrim, Name: "getc", Args: one}, {Kind: api.ExPrim, Name: "error"}, {Kind: api.ExPrim, Name: "add", Args: many(2, number(1)), Num: 1},
	}
	return l
}

// around are expressions in which one stands.
func around(e api.Expr) []api.Expr {
	one := []api.Expr{e}
	return []api.Expr{
		e, {Kind: api.ExCon, Name: "C", Args: []api.Expr{number(1), e}}, {Kind: api.ExLam, Params: []string{"x"}, Args: one}, {Kind: api.ExApp, Args: []api.Expr{e, number(1)}}, {Kind: api.ExApp, Args: []api.Expr{number(1), e}},
		{Kind: api.ExLet, Binds: []api.Bind{{Name: "x", E: number(1)}, {Name: "y", E: e}}, Args: many(1, number(1))}, {Kind: api.ExLet, Binds: []api.Bind{{Name: "x", E: number(1)}}, Args: one},
		{Kind: api.ExCase, Args: one, Alts: []api.Alt{{Kind: api.AltElse, E: number(1)}}}, {Kind: api.ExCase, Args: many(1, number(1)), Alts: []api.Alt{{Kind: api.AltInt, E: number(1)}, {Kind: api.AltElse, E: e}}},
		{Kind: api.ExPrim, Name: "add", Args: []api.Expr{number(1), e}}, chain(100, e),
	}
}

// P12.1, P12.2: what comes is as core's table says, at each place in it, whatever its constructors and variables are.
func TestWhatComesIsAsTold(t *testing.T) {
	for _, e := range asTold(t) {
		for _, ok := range around(e) {
			checkComes(t, ok, api.OK)
		}
	}
	for i, e := range notAsTold(t) {
		for _, ok := range around(e) {
			checkComes(t, ok, api.ErrArg)
		}
		if t.Failed() {
			t.Fatalf("at the expression %d", i)
		}
	}
}

// checkComes asks for the error of an expression as what comes, of a pattern, a row without patterns, with one, a second one, and of functions.
func checkComes(t *testing.T, ok api.Expr, want api.Errno) {
	t.Helper()
	got, e := match.Pattern(cons(), pattern(t, "q"), "w", ok, variable("no"))
	checkError(t, "Pattern", got, e, want)
	fine := api.Row{Pats: []api.Node{anything()}, E: number(1)}
	it := api.Row{Pats: []api.Node{named(api.NdPVar, "q")}, E: ok}
	checkRowsError(t, "without patterns", nil, []api.Row{{E: ok}}, want)
	checkRowsError(t, "without patterns, behind", nil, []api.Row{{E: number(1)}, {E: ok}}, want)
	checkRowsError(t, "one row", []string{"w"}, []api.Row{it}, want)
	checkRowsError(t, "the second row", []string{"w"}, []api.Row{fine, it, fine}, want)
	checkFunctionError(t, "a function", []api.Row{it}, want)
}

// P12.1: what is too great or too deep is ErrLong, but ErrArg where it is not as the table says, wherever that is.
func TestGreatAndWrong(t *testing.T) {
	ask := func(what string, ok api.Expr, want api.Errno) {
		t.Helper()
		got, e := match.Pattern(cons(), anything(), "w", ok, variable("no"))
		checkError(t, what, got, e, want)
	}
	for i, e := range notAsTold(t) {
		ask("deep and wrong "+strconv.Itoa(i), chain(api.MaxNest+1, e), api.ErrArg)
		ask("wrong at the front "+strconv.Itoa(i), api.Expr{Kind: api.ExCon, Name: "C", Args: []api.Expr{e, chain(api.MaxNest, number(1))}}, api.ErrArg)
	}
	for i, e := range asTold(t) {
		ask("deep "+strconv.Itoa(i), chain(api.MaxNest+1, e), api.ErrLong)
	}
	great := wide(api.MaxNodes + 1)
	great.Args[api.MaxNodes-1] = api.Expr{Kind: api.ExChar, Num: 256}
	ask("great and wrong at the end", great, api.ErrArg)
	great.Args[api.MaxNodes-1] = number(1)
	ask("great", great, api.ErrLong)
	great.Name = ""
	ask("great and wrong itself", great, api.ErrArg)
	great = api.Expr{Kind: api.ExPrim, Name: "add", Args: many(api.MaxNodes+1, number(1))}
	ask("a primitive of so many", great, api.ErrArg)
	great = api.Expr{Kind: api.ExApp, Args: many(api.MaxNodes+1, number(1))}
	ask("an application of so many", great, api.ErrArg)
}

// P12.1: lets and cases that have more bindings and alternatives than MaxNodes.
func TestGreatLists(t *testing.T) {
	ask := func(what string, ok api.Expr, want api.Errno) {
		t.Helper()
		got, e := match.Pattern(cons(), anything(), "w", ok, variable("no"))
		checkError(t, what, got, e, want)
	}
	let := api.Expr{Kind: api.ExLet, Args: many(1, number(1))}
	choice := api.Expr{Kind: api.ExCase, Args: many(1, number(1))}
	for i := range api.MaxNodes + 1 {
		let.Binds = append(let.Binds, api.Bind{Name: "x" + strconv.Itoa(i), E: number(1)})
		choice.Alts = append(choice.Alts, api.Alt{Kind: api.AltInt, Num: int64(i), E: number(1)})
	}
	last := api.MaxNodes
	ask("a let", let, api.ErrLong)
	ask("a case", choice, api.ErrLong)
	let.Binds[last].Name = "x0"
	ask("a let with a name twice", let, api.ErrArg)
	let.Binds[last].Name = ""
	ask("a let without a name", let, api.ErrArg)
	choice.Alts[last].Num = 0
	ask("a case with a number twice", choice, api.ErrArg)
	choice.Alts[last] = api.Alt{Kind: api.AltElse, E: number(1)}
	ask("a case with an else", choice, api.ErrLong)
	choice.Alts[last-1] = api.Alt{Kind: api.AltElse, E: number(1)}
	ask("a case with two of them", choice, api.ErrArg)
	choice.Alts[last-1] = api.Alt{Kind: api.AltCon, Name: "B", E: number(1)}
	ask("a case of two kinds", choice, api.ErrArg)
}

// T6: lists that stand in many places, or among their own parts.
func TestSharedLists(t *testing.T) {
	e := number(1)
	for range 60 {
		e = api.Expr{Kind: api.ExCon, Name: "C", Args: []api.Expr{e, e}}
	}
	own := api.Expr{Kind: api.ExCon, Name: "C", Args: make([]api.Expr, 2)}
	own.Args[0], own.Args[1] = own, own
	for what, ok := range map[string]api.Expr{"shared": e, "its own part": own} {
		got, err := match.Pattern(cons(), anything(), "w", ok, variable("no"))
		checkError(t, what, got, err, api.ErrLong)
		got, err = match.Rows(cons(), nil, []api.Row{{E: ok}})
		checkError(t, what, got, err, api.ErrLong)
		got, err = match.Pattern(cons(), anything(), "w", variable("ok"), ok)
		checkError(t, what, got, err, api.ErrArg)
	}
	wrong := api.Expr{Kind: api.ExCon, Name: "C", Args: []api.Expr{e, {Kind: 77}, own}}
	got, err := match.Pattern(cons(), anything(), "w", wrong, variable("no"))
	checkError(t, "shared and wrong", got, err, api.ErrArg)
	if core.Size(wrong) != 0 {
		t.Errorf("what is too great has a size")
	}
}

// P12.1: as great, and as deep, as ok may be, and one more.
func TestHowGreatOkMayBe(t *testing.T) {
	for what, x := range map[string]struct {
		ok   api.Expr
		want api.Errno
	}{
		"MaxNodes": {wide(api.MaxNodes), api.OK}, "one more": {wide(api.MaxNodes + 1), api.ErrLong},
		"MaxNest": {chain(api.MaxNest, variable("x")), api.OK}, "one deeper": {chain(api.MaxNest+1, variable("x")), api.ErrLong},
	} {
		got, e := match.Pattern(cons(), pattern(t, "x"), "w", x.ok, variable("no"))
		checkError(t, what, got, e, x.want)
		if x.want == api.OK && (got.Kind != api.ExLet || !core.Same(got.Args[0], x.ok)) {
			t.Errorf("%s: it is another one", what)
		}
		row := api.Row{Pats: []api.Node{anything()}, E: x.ok}
		checkRowsError(t, what, []string{"w"}, []api.Row{row}, x.want)
		checkRowsError(t, what, []string{"w"}, []api.Row{{Pats: row.Pats, E: number(1)}, row}, x.want)
		checkRowsError(t, what, nil, []api.Row{{E: x.ok}}, x.want)
		checkFunctionError(t, what, []api.Row{row}, x.want)
	}
}
