package match_test

import (
	"strings"
	"testing"

	"thunkmill/api"
	"thunkmill/core"
	"thunkmill/match"
	"thunkmill/testkit"
)

// P12.2: no rows, one, several; of no patterns, one, several; what comes with %no in it and without it.
func TestRows(t *testing.T) {
	one, two := []string{"v"}, []string{"v", "w"}
	checkRows(t, "no rows", nil, nil, "failure")
	checkRows(t, "no rows of two", two, []api.Row{}, "failure")
	checkRows(t, "no patterns", nil, []api.Row{row(t, "1")}, "(let n = failure in 1)")
	checkRows(t, "no patterns, %no", nil, []api.Row{row(t, "%no")}, "(let n = failure in n)")
	checkRows(t, "no patterns, two rows", nil, []api.Row{row(t, "(a %no)"), row(t, "b")}, "(let n = (let m = failure in b) in (a n))")
	checkRows(t, "one pattern", one, []api.Row{row(t, "x", "x")}, "(let n = failure in (let x = v in x))")
	checkRows(t, "one that may fail", one, []api.Row{row(t, "a", "1")}, "(let n = failure in (case v of 1 -> a; _ -> n))")
	checkRows(t, "two rows", one, []api.Row{row(t, "a", "1"), row(t, "(x %no)", "B x")}, "(let n = (let m = failure in (case v of B y -> (let x = y in (x m)); _ -> m)) in (case v of 1 -> a; _ -> n))")
	checkRows(t, "two patterns", two, []api.Row{row(t, "(x y)", "B x", "[y]")}, "(let n = failure in (case v of B a -> (let x = a in (case w of Cons b c -> (let y = b in (case c of Nil -> (x y); _ -> n)); _ -> n)); _ -> n))")
	checkRows(t, "three rows", two, []api.Row{row(t, "(case g of True -> x; _ -> %no)", "1", "x"), row(t, "(\\ x -> %no)", "x", "_"), row(t, "%no", "_", "_")},
		"(let n = (let m = (let k = failure in k) in (let x = v in (\\ x -> m))) in (case v of 1 -> (let x = w in (case g of True -> x; _ -> n)); _ -> n))")
	checkRows(t, "lazy", two, []api.Row{row(t, "(x y)", "~(B x)", "~(B y)"), row(t, "y", "~(x, z)", "~y")},
		"(let n = (let m = failure in (let y = (let a = w in a) in y)) in (let x = (case v of B a -> (let b = a in b); _ -> failure) in (let y = (case w of B a -> (let b = a in b); _ -> failure) in (x y))))")
	checkRows(t, "one name in two rows", one, []api.Row{row(t, "x", "B x"), row(t, "x", "x")}, "(let n = (let m = failure in (let x = v in x)) in (case v of B a -> (let x = a in x); _ -> n))")
}

// P12.2: the variable %no stands for what comes next where it is free, and nowhere else.
func TestBoundNo(t *testing.T) {
	for _, x := range [][2]string{
		{"(%no %no)", "(n n)"}, {"(\\ %no -> %no)", "(\\ k -> k)"}, {"(let %no = %no in %no)", "(let k = k in k)"}, {"(case %no of B %no -> %no; _ -> %no)", "(case n of B k -> k; _ -> n)"},
		{"(%NO %n no %noo)", "(%NO %n no %noo)"},
	} {
		checkRows(t, x[0], []string{"v"}, []api.Row{row(t, x[0], "1"), row(t, "a", "_")}, "(let n = (let m = failure in a) in (case v of 1 -> "+x[1]+"; _ -> n))")
	}
	got, e := match.Rows(cons(), []string{"v"}, []api.Row{row(t, "%no", "1"), row(t, "(f %no)", "2")})
	if free := strings.Join(core.Free(got), " "); e != api.OK || free != "f v" {
		t.Errorf("free are %s, %v", free, e)
	}
}

// P12.2: Function is a lambda of fresh names with the rows as its body.
func TestFunction(t *testing.T) {
	for what, x := range map[string]struct {
		l    []api.Row
		want string
	}{
		"the chapter's":        {[]api.Row{row(t, "x", "x")}, "(\\ a -> (let n = failure in (let x = a in x)))"},
		"one of two":           {[]api.Row{row(t, "(x y)", "x", "B y")}, "(\\ a b -> (let n = failure in (let x = a in (case b of B c -> (let y = c in (x y)); _ -> n))))"},
		"two rows":             {[]api.Row{row(t, "1", "0", "_"), row(t, "(y %no)", "_", "y")}, "(\\ a b -> (let n = (let m = failure in (let y = b in (y m))) in (case a of 0 -> 1; _ -> n)))"},
		"names that are there": {[]api.Row{row(t, "(a b x)", "x")}, "(\\ c -> (let n = failure in (let x = c in (a b x))))"},
	} {
		got, e := match.Function(cons(), x.l)
		checkSame(t, what, got, e, expr(t, x.want))
	}
	for _, width := range []int{1, 2, 31, api.MaxParams} {
		got, e := match.Function(cons(), []api.Row{{Pats: many(width, anything()), E: variable("x")}})
		want := api.Expr{Kind: api.ExLam, Params: numbered("p", width), Args: []api.Expr{expr(t, "(let n = failure in x)")}}
		checkSame(t, "so many patterns", got, e, want)
	}
}

// P12.2: what Function refuses itself.
func TestFunctionErrors(t *testing.T) {
	checkFunctionError(t, "no rows", nil, api.ErrArg)
	checkFunctionError(t, "none of a list", []api.Row{}, api.ErrArg)
	checkFunctionError(t, "no patterns", []api.Row{{E: number(1)}}, api.ErrArg)
	checkFunctionError(t, "no patterns, then one", []api.Row{{E: number(1)}, row(t, "1", "x")}, api.ErrArg)
	checkFunctionError(t, "MaxParams", []api.Row{{Pats: many(api.MaxParams, anything()), E: number(1)}}, api.OK)
	checkFunctionError(t, "one more", []api.Row{{Pats: many(api.MaxParams+1, anything()), E: number(1)}}, api.ErrArg)
	deep := api.Row{Pats: []api.Node{lazily(api.MaxDeep, anything())}, E: number(1)}
	checkFunctionError(t, "no patterns, then what is too deep", []api.Row{{E: number(1)}, deep}, api.ErrArg)
	checkFunctionError(t, "what is too deep", []api.Row{deep}, api.ErrLong)
	checkFunctionError(t, "what is too deep in a row of more", []api.Row{{Pats: append(many(1, anything()), deep.Pats...), E: number(1)}, row(t, "1", "x")}, api.ErrArg)
	// Whatever names a node that is too deep has, none of them is a fresh one.
	for _, name := range []string{"%m1", "%1", "%no", "a", "v1", "x1"} {
		checkFunctionError(t, "a name like a fresh one", []api.Row{{Pats: []api.Node{lazily(api.MaxDeep, named(api.NdPVar, name))}, E: number(1)}}, api.ErrLong)
	}
}

// P12.2: as many patterns as there are variables, in each row.
func TestWidths(t *testing.T) {
	v, vw := []string{"v"}, []string{"v", "w"}
	none, one, two := row(t, "1"), row(t, "1", "x"), row(t, "1", "x", "y")
	for what, x := range map[string]struct {
		vars []string
		l    []api.Row
	}{
		"too many": {nil, []api.Row{one}}, "too few": {v, []api.Row{none}}, "two of one": {v, []api.Row{two}}, "one of two": {vw, []api.Row{one}},
		"the second one": {v, []api.Row{one, two}}, "the last one": {vw, []api.Row{two, two, none}},
		"ahead of the errors of rows": {v, []api.Row{{Pats: []api.Node{lazily(api.MaxDeep, anything())}, E: number(1)}, two}}, "ahead of ErrScope": {v, []api.Row{row(t, "1", "Zoe"), none}},
	} {
		checkRowsError(t, what, x.vars, x.l, api.ErrArg)
		if len(x.l) > 1 && len(x.l[0].Pats) > 0 {
			checkFunctionError(t, what, x.l, api.ErrArg)
		}
	}
}

// P12.2: vars are names, none twice, none %no, none of them a pattern's.
func TestVars(t *testing.T) {
	long := strings.Repeat("v", api.MaxSource)
	wildcards := func(n int) []api.Row { return []api.Row{{Pats: many(n, anything()), E: number(1)}} }
	for _, vars := range [][]string{{"v"}, {"v", "w", "V", "vv"}, {"%", "%n", "no", "%noo"}, {long, long[1:]}, {"!", "~", "'"}, numbered("v", 100)} {
		checkRowsError(t, "names", vars, wildcards(len(vars)), api.OK)
		checkRowsError(t, "names of no rows", vars, nil, api.OK)
	}
	for _, vars := range [][]string{{""}, {"v", ""}, {"a b"}, {"\x7f"}, {"\xe4"}, {long + "v"}, {"%no"}, {"v", "%no"}, {"v", "v"}, {"v", "w", "v"}, append(numbered("v", 100), "v77")} {
		checkRowsError(t, "no names", vars, wildcards(len(vars)), api.ErrArg)
		checkRowsError(t, "no names of no rows", vars, nil, api.ErrArg)
	}
	for p, want := range map[string]api.Errno{
		"v": api.ErrArg, "w": api.ErrArg, "v@_": api.ErrArg, "~(B w)": api.ErrArg, "[x, (1, v)]": api.ErrArg, "x@(y : w)": api.ErrArg, "x": api.OK, "vw": api.OK, `"v"`: api.OK,
	} {
		for _, l := range [][]api.Row{{row(t, "1", p, "_")}, {row(t, "1", "_", p)}, {row(t, "1", "_", "_"), row(t, "1", "1", p)}} {
			checkRowsError(t, p, []string{"v", "w"}, l, want)
		}
	}
}

// P12.2: a pattern that is too deep, or too great, or may not be, has its names too: that comes ahead of what syntax says.
func TestVarsInWrongPatterns(t *testing.T) {
	ask := func(what string, p api.Node, want api.Errno) {
		t.Helper()
		checkRowsError(t, what, []string{"v", "w"}, []api.Row{{Pats: []api.Node{anything(), p}, E: number(1)}}, want)
	}
	ask("deep, with v", lazily(api.MaxDeep, named(api.NdPVar, "v")), api.ErrArg)
	ask("deep, with x", lazily(api.MaxDeep, named(api.NdPVar, "x")), api.ErrLong)
	ask("deeper, with v", lazily(60000, named(api.NdPAs, "v")), api.ErrArg)
	ask("deeper, with x", lazily(60000, named(api.NdPAs, "x")), api.ErrLong)
	great := node(api.NdPList, many(api.MaxNodes, anything())...)
	ask("great", great, api.ErrLong)
	great.Kids[api.MaxNodes-1] = named(api.NdPVar, "w")
	ask("great, with w", great, api.ErrArg)
	shared := anything()
	for range 60 {
		shared = node(api.NdPTuple, shared, shared)
	}
	ask("shared", shared, api.ErrLong)
	ask("shared, with v", node(api.NdPTuple, shared, named(api.NdPVar, "v")), api.ErrArg)
	own := node(api.NdPList, make([]api.Node, 3)...)
	own.Kids[0], own.Kids[1], own.Kids[2] = own, own, named(api.NdPVar, "x")
	ask("its own part", own, api.ErrLong)
	own.Kids[2].Name = "w"
	ask("its own part, with w", own, api.ErrArg)
}

// P12.2: 1,000 rows, and one more.
func TestManyRows(t *testing.T) {
	for _, n := range []int{999, 1000} {
		l := many(n, row(t, "x", "B x"))
		got, e := match.Rows(cons(), []string{"v"}, l)
		rows := 0
		for e := got; e.Kind == api.ExLet; e = e.Binds[0].E {
			rows++
		}
		if e != api.OK || rows != n {
			t.Errorf("%d rows: %d, %v", n, rows, e)
		}
		checkFunctionError(t, "so many rows", l, api.OK)
	}
	fine, deep := many(1001, row(t, "x", "B x")), many(1001, api.Row{Pats: []api.Node{lazily(api.MaxDeep, anything())}, E: number(1)})
	for _, l := range [][]api.Row{fine, deep} {
		checkRowsError(t, "too many rows", []string{"v"}, l, api.ErrArg)
		checkFunctionError(t, "too many rows", l, api.ErrArg)
	}
	checkRowsError(t, "too many without patterns", nil, many(1001, row(t, "1")), api.ErrArg)
}

// P12.2: the errors of rows from the first on, of a row's patterns from the left, each with those of what comes, and a name in two patterns behind them.
func TestOrderOfRows(t *testing.T) {
	wrongArg, wrongLong := api.Expr{}, chain(api.MaxNest+1, variable("x"))
	fine, deep, bad := anything(), lazily(api.MaxDeep, anything()), named(api.NdPVar, "X")
	scope, shape, x, twice := pattern(t, "Zoe"), pattern(t, "B"), pattern(t, "x"), pattern(t, "(y, y)")
	one := number(1)
	type rows [][]api.Node
	for i, c := range []struct {
		pats  rows
		comes []api.Expr
		want  api.Errno
	}{
		{rows{{fine, deep}}, []api.Expr{one}, api.ErrLong}, {rows{{bad, deep}}, []api.Expr{one}, api.ErrArg}, {rows{{deep, bad}}, []api.Expr{one}, api.ErrLong},
		{rows{{scope, shape}}, []api.Expr{one}, api.ErrScope}, {rows{{shape, scope}}, []api.Expr{one}, api.ErrShape}, {rows{{shape, bad}}, []api.Expr{one}, api.ErrShape}, {rows{{scope, deep}}, []api.Expr{one}, api.ErrScope},
		{rows{{x, x}}, []api.Expr{one}, api.ErrScope}, {rows{{x, node(api.NdPTuple, fine, x)}}, []api.Expr{one}, api.ErrScope}, {rows{{twice, fine}}, []api.Expr{one}, api.ErrScope}, {rows{{lazily(2, x), named(api.NdPAs, "x", fine)}}, []api.Expr{one}, api.ErrScope},
		{rows{{node(api.NdPTuple, x, fine), node(api.NdPTuple, x, shape)}}, []api.Expr{one}, api.ErrShape}, {rows{{x, node(api.NdPTuple, x, bad)}}, []api.Expr{one}, api.ErrArg},
		{rows{{x, x}}, []api.Expr{wrongArg}, api.ErrArg}, {rows{{x, x}}, []api.Expr{wrongLong}, api.ErrLong}, {rows{{fine, shape}}, []api.Expr{wrongLong}, api.ErrLong}, {rows{{shape, fine}}, []api.Expr{wrongLong}, api.ErrShape}, {rows{{fine, deep}}, []api.Expr{wrongArg}, api.ErrArg}, {rows{{deep, fine}}, []api.Expr{wrongArg}, api.ErrLong},
		{rows{{scope, fine}}, []api.Expr{wrongArg}, api.ErrArg}, {rows{{fine, scope}}, []api.Expr{wrongArg}, api.ErrArg},
		{rows{{x, fine}, {x, fine}}, []api.Expr{one, one}, api.OK}, {rows{{fine, fine}, {fine, shape}}, []api.Expr{one, one}, api.ErrShape}, {rows{{fine, shape}, {bad, fine}}, []api.Expr{one, one}, api.ErrShape}, {rows{{x, x}, {bad, fine}}, []api.Expr{one, one}, api.ErrScope}, {rows{{x, x}, {fine, fine}}, []api.Expr{one, wrongArg}, api.ErrScope},
		{rows{{fine, fine}, {fine, fine}}, []api.Expr{wrongLong, wrongArg}, api.ErrLong}, {rows{{fine, fine}, {fine, fine}}, []api.Expr{one, wrongArg}, api.ErrArg}, {rows{{fine, fine}, {deep, fine}}, []api.Expr{wrongArg, one}, api.ErrArg},
	} {
		var l []api.Row
		for k, pats := range c.pats {
			l = append(l, api.Row{Pats: pats, E: c.comes[k]})
		}
		got, e := match.Rows(cons(), []string{"v", "w"}, l)
		if e != c.want {
			t.Errorf("case %d: %v, want %v", i, e, c.want)
		}
		checkError(t, "Rows", got, e, c.want)
		got, e = match.Function(cons(), l)
		if e != c.want {
			t.Errorf("case %d: %v of the function, want %v", i, e, c.want)
		}
		checkError(t, "Function", got, e, c.want)
	}
	checkRowsError(t, "without patterns", nil, []api.Row{{E: wrongLong}, {E: wrongArg}}, api.ErrLong)
	checkRowsError(t, "without patterns", nil, []api.Row{{E: wrongArg}, {E: wrongLong}}, api.ErrArg)
	checkRowsError(t, "without patterns", nil, []api.Row{{E: chain(api.MaxNest+1, wrongArg)}}, api.ErrArg)
}

// P12.2: what Pattern refuses of a pattern is refused in each row.
func TestRowsRefuseAsPattern(t *testing.T) {
	trees := testkit.Trees{Chance: seeded(3)}
	wrong := []api.Node{{}, named(api.NdPVar, "X"), node(api.NdPOps, anything(), named(api.NdOp, ":"), anything()), pattern(t, "(y, y)"), pattern(t, "Zoe"), pattern(t, "B"), lazily(api.MaxDeep, anything())}
	for kind := api.NdProgram; kind <= api.NdStmt; kind++ {
		wrong = append(wrong, trees.Tree(kind, 2))
	}
	for _, p := range wrong {
		_, want := match.Pattern(cons(), p, "w", number(1), variable("%no"))
		if want == api.OK {
			t.Fatalf("%v is no wrong pattern", p)
		}
		rows := []api.Row{{Pats: []api.Node{anything()}, E: number(1)}, {Pats: []api.Node{p}, E: number(1)}}
		checkRowsError(t, "a wrong pattern", []string{"w"}, rows[1:], want)
		checkRowsError(t, "a wrong pattern of the second row", []string{"w"}, rows, want)
		checkFunctionError(t, "a wrong pattern of the second row", rows, want)
	}
}
