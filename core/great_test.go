package core_test

import (
	"fmt"
	"testing"

	"thunkmill/api"
	"thunkmill/core"
)

// under is an expression in so many lambdas of 32 names each, all of them different.
func under(lambdas int, e api.Expr) api.Expr {
	for i := range lambdas {
		names := named(32)
		for k := range names {
			names[k] = fmt.Sprintf("p%d.%d", i, k)
		}
		e = api.Expr{Kind: api.ExLam, Params: names, Args: []api.Expr{e}}
	}
	return e
}

// leaves has one part 30^4 times, in applications of applications.
func leaves(e api.Expr) api.Expr {
	for range 4 {
		e = api.Expr{Kind: api.ExApp, Args: many(30, e)}
	}
	return e
}

// T6: scopes of many names, around many variables that none of them binds, are gone through in no more time than there is.
func TestGreatScopes(t *testing.T) {
	e := under(4000, leaves(variable("outer")))
	if got := core.CheckExpr(api.Prog{}, e, []string{"outer"}); got != api.OK {
		t.Errorf("CheckExpr: %v", got)
	}
	if got := core.CheckExpr(api.Prog{}, e, nil); got != api.ErrScope {
		t.Errorf("CheckExpr without the name: %v", got)
	}
	if !core.Same(e, e) {
		t.Errorf("it is not the same as itself")
	}
	if got := core.Free(e); len(got) != 1 {
		t.Errorf("Free: %q", got)
	}
	got := core.Subst(e, "outer", variable("p7.7"))
	if free := core.Free(got); len(free) != 1 || free[0] != "p7.7" || core.Size(got) != core.Size(e) {
		t.Errorf("Subst: %q are free", free)
	}
}

// T6: a let of many names, each asked for, and many names that are named otherwise.
func TestGreatLet(t *testing.T) {
	const n = 60000
	e := api.Expr{Kind: api.ExLet, Args: []api.Expr{variable("x")}}
	by := api.Expr{Kind: api.ExLet, Args: []api.Expr{number(1)}}
	for i := range n {
		name := fmt.Sprintf("v%d", i)
		e.Binds = append(e.Binds, api.Bind{Name: name, E: variable(fmt.Sprintf("v%d", n-1-i))})
		by.Binds = append(by.Binds, api.Bind{Name: "b" + name, E: variable(name)})
	}
	if got := core.CheckExpr(api.Prog{}, e, []string{"x"}); got != api.OK {
		t.Errorf("CheckExpr: %v", got)
	}
	got := core.Subst(e, "x", by)
	if free := core.Free(got); len(free) != n || !core.Same(got.Args[0], by) {
		t.Errorf("Subst: %d are free", len(free))
	}
	if got := core.CheckExpr(api.Prog{}, got, core.Free(by)); got != api.OK {
		t.Errorf("CheckExpr of what comes: %v", got)
	}
}
