package match_test

import (
	"runtime/debug"
	"strings"
	"testing"

	"thunkmill/api"
	"thunkmill/match"
)

// shallow lets no goroutine have a stack that many nested calls would need, while a test runs.
func shallow(t *testing.T) {
	before := debug.SetMaxStack(1 << 20)
	t.Cleanup(func() { debug.SetMaxStack(before) })
}

// spine goes along what comes if all fits, and tells how many cases and lets there are up to ok.
func spine(e api.Expr) (cases, lets int, last api.Expr) {
	for {
		switch e.Kind {
		case api.ExCase:
			cases++
			e = e.Alts[0].E
		case api.ExLet:
			lets++
			e = e.Args[0]
		default:
			return cases, lets, e
		}
	}
}

// P12.1: patterns with many parts, side by side: calls are not nested as deep as the expression is.
func TestGreatPatterns(t *testing.T) {
	shallow(t)
	const n = 100000
	var names []api.Node
	for _, name := range numbered("n", n) {
		names = append(names, named(api.NdPVar, name))
	}
	l := []api.Con{{Name: "C", Arity: n}}
	for what, x := range map[string]struct {
		p           api.Node
		cases, lets int
	}{
		"a list of names": {node(api.NdPList, names...), n + 1, n}, "a list of anything": {node(api.NdPList, many(n, anything())...), n + 1, 0}, "a text": {named(api.NdPString, strings.Repeat("t", n)), 2*n + 1, 0},
		"a constructor": {named(api.NdPCon, "C", names...), 1, n}, "a constructor of anything": {named(api.NdPCon, "C", many(n, anything())...), 1, 0}, "a constructor of ~": {named(api.NdPCon, "C", many(n, node(api.NdPLazy, anything()))...), 1, 0},
		"a constructor of numbers": {named(api.NdPCon, "C", many(n, api.Node{Kind: api.NdPInt, Num: 7})...), n + 1, 0},
	} {
		got, e := match.Pattern(l, x.p, "w", variable("ok"), variable("no"))
		if cases, lets, last := spine(got); e != api.OK || cases != x.cases || lets != x.lets || last.Name != "ok" {
			t.Errorf("%s: %d cases, %d lets, %v, %v", what, cases, lets, last, e)
		}
		got, e = match.Rows(l, []string{"w"}, []api.Row{{Pats: []api.Node{x.p}, E: variable("ok")}})
		if cases, lets, last := spine(got); e != api.OK || cases != x.cases || lets != x.lets+1 || last.Name != "ok" {
			t.Errorf("%s in a row: %d cases, %d lets, %v, %v", what, cases, lets, last, e)
		}
	}
}

// P12.1: lazy patterns nested as deep as patterns may be, and one of many names, few of which are asked for.
func TestGreatLazyPatterns(t *testing.T) {
	p := lazily(api.MaxDeep-1, named(api.NdPVar, "x"))
	got, e := match.Pattern(nil, p, "w", variable("x"), variable("no"))
	r := &reference{}
	checkSame(t, "deep", got, e, r.pattern(p, "w", variable("x"), variable("no")))
	var names []api.Node
	for _, name := range numbered("n", 20000) {
		names = append(names, named(api.NdPVar, name))
	}
	got, e = match.Pattern(nil, node(api.NdPLazy, node(api.NdPList, names...)), "w", applied([]string{"n19999", "n7"}), variable("no"))
	if e != api.OK || len(got.Binds) != 2 || got.Binds[0].Name != "n7" || got.Binds[1].Name != "n19999" {
		t.Fatalf("%d bindings, %v", len(got.Binds), e)
	}
	for _, b := range got.Binds {
		if cases, lets, _ := spine(b.E); cases != 20001 || lets != 20000 {
			t.Errorf("%s: %d cases, %d lets", b.Name, cases, lets)
		}
	}
}

// P12.2: rows of many patterns.
func TestGreatRows(t *testing.T) {
	vars := numbered("v", 20000)
	r := api.Row{Pats: many(len(vars), api.Node{Kind: api.NdPInt, Num: 1}), E: variable("ok")}
	got, e := match.Rows(nil, vars, []api.Row{r, r})
	if cases, lets, last := spine(got); e != api.OK || cases != len(vars) || lets != 1 || last.Name != "ok" {
		t.Errorf("%d cases, %d lets, %v, %v", cases, lets, last, e)
	}
}
