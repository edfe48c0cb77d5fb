package match_test

import (
	"slices"
	"testing"

	"thunkmill/api"
	"thunkmill/core"
	"thunkmill/match"
)

// boundIn are all names that are bound in an expression, each time they are.
func boundIn(e api.Expr) []string {
	l := slices.Clone(e.Params)
	for _, b := range e.Binds {
		l = append(append(l, b.Name), boundIn(b.E)...)
	}
	for _, arg := range e.Args {
		l = append(l, boundIn(arg)...)
	}
	for _, a := range e.Alts {
		l = append(append(l, a.Vars...), boundIn(a.E)...)
	}
	return l
}

// applied is an application of names, of applications where there are many.
func applied(names []string) api.Expr {
	e := number(1)
	for l := range slices.Chunk(names, api.MaxParams) {
		e = api.Expr{Kind: api.ExApp, Args: []api.Expr{e}}
		for _, name := range l {
			e.Args = append(e.Args, variable(name))
		}
	}
	return e
}

// binding is an expression in which names are bound, in all ways.
func binding(names []string, body api.Expr) api.Expr {
	for i, name := range names {
		switch i % 3 {
		case 0:
			body = api.Expr{Kind: api.ExLam, Params: []string{name}, Args: []api.Expr{body}}
		case 1:
			body = letIn(name, number(1), body)
		case 2:
			body = choose("s", api.Alt{Kind: api.AltCon, Name: "B", Vars: []string{name}, E: body}, number(1))
		}
	}
	return body
}

// P12.1: fresh names are others than those of ok, of no and of v. Which they are is learnt from the last answer: its names stand in the next question.
func TestFreshNames(t *testing.T) {
	for _, text := range []string{"(1, x, C a 'b' _)", "[x, ~(y, z), _]", "~(x, (y, ~[z, 1]))", "x@(B y)", `"abc"`} {
		p := pattern(t, text)
		taken := []string{"no", "w"}
		for range 6 {
			last := len(taken) - 1
			for _, ok := range []api.Expr{applied(namesOf(p)), applied(append(namesOf(p), taken...)), binding(taken, applied(namesOf(p))), letIn("f", binding(taken, number(1)), applied(append(namesOf(p), taken[last/2:]...)))} {
				for i, v := range taken[:last] {
					no := taken[i+1]
					got, e := match.Pattern(cons(), p, v, ok, variable(no))
					r := &reference{}
					checkSame(t, text, got, e, r.pattern(p, v, ok, variable(no)))
					checkFresh(t, got, append(namesOf(p), boundIn(ok)...), append(core.Free(ok), v, no))
					taken = newOnes(taken, boundIn(got), namesOf(p))
				}
			}
		}
		if len(taken) < 8 {
			t.Errorf("%s: %d names", text, len(taken))
		}
	}
}

// newOnes are names with others behind them that are new, but for those of a pattern.
func newOnes(names, more, but []string) []string {
	for _, name := range more {
		if !slices.Contains(names, name) && !slices.Contains(but, name) && name != "f" {
			names = append(names, name)
		}
	}
	return names
}

// checkFresh asks whether the names that are bound in an expression, without those that must be, stand nowhere else: none of them twice, none among those that must be, none among others.
func checkFresh(t *testing.T, e api.Expr, must, others []string) {
	t.Helper()
	fresh := boundIn(e)
	for _, name := range must {
		if i := slices.Index(fresh, name); i >= 0 {
			fresh = slices.Delete(fresh, i, i+1)
		}
	}
	if hasTwice(fresh) {
		t.Errorf("a name is bound twice in %s", core.Text(e))
	}
	for _, name := range fresh {
		if slices.Contains(must, name) || slices.Contains(others, name) {
			t.Errorf("%s is not fresh in %s", name, core.Text(e))
		}
	}
}

// P12.2: likewise of rows and functions; vars may have such names, which stand in what comes, or do not.
func TestFreshNamesOfRows(t *testing.T) {
	pats := patterns(t, "(x, ~(y, 1))", "[z]")
	names := namesOf(pats...)
	taken := []string{"v", "w"}
	for round := range 12 {
		ok := api.Expr{Kind: api.ExApp, Args: []api.Expr{applied(append(taken, names...)), variable("%no"), binding(taken, number(2))}}
		if round%2 == 0 {
			ok = applied(append(names, "%no"))
		}
		l := []api.Row{{Pats: pats, E: ok}, {Pats: patterns(t, "x", "_"), E: variable("%no")}}
		if round%4 > 1 {
			l[1].E = binding(taken, l[1].E)
		}
		must := slices.Concat(names, namesOf(l[1].Pats...), boundIn(l[0].E), boundIn(l[1].E))
		r := &reference{}
		for i := range len(taken) - 1 {
			vars := []string{taken[i], taken[i+1]}
			got, e := match.Rows(cons(), vars, l)
			checkSame(t, "rows", got, e, r.rows(vars, l))
			checkFresh(t, got, must, slices.Concat(vars, core.Free(l[0].E)))
			taken = newOnes(taken, boundIn(got), names)
		}
		got, e := match.Function(cons(), l)
		checkSame(t, "a function", got, e, r.function(l))
		checkFresh(t, got, must, core.Free(l[0].E))
		taken = newOnes(taken, boundIn(got), names)
	}
	if len(taken) < 20 {
		t.Errorf("%d names", len(taken))
	}
}
