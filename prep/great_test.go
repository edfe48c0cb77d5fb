package prep_test

import (
	"fmt"
	"slices"
	"testing"
	"time"

	"thunkmill/api"
	"thunkmill/core"
	"thunkmill/prep"
	"thunkmill/testkit"
)

func name(i int) string { return fmt.Sprint("x", i) }

func lambda(body api.Expr, params ...string) api.Expr {
	return api.Expr{Kind: api.ExLam, Params: params, Args: list(body)}
}

// layers is an expression in so many lambdas of as many names as there may be, all of them unlike.
func layers(n int, e api.Expr) api.Expr {
	for i := range n {
		e = lambda(e, testkit.Many(api.MaxParams, func(j int) string { return name(i*api.MaxParams + j) })...)
	}
	return e
}

// greatScopes are expressions with some hundred thousand names, scopes and variables; what copied all names for each scope, or went through all scopes for each variable, would take hours.
func greatScopes() map[string]func() api.Expr {
	const half = api.MaxNodes/4 - 1000 // each is two at least
	return map[string]func() api.Expr{
		"a great let of lambdas": func() api.Expr {
			return api.Expr{Kind: api.ExLet, Args: list(number(1)), Binds: testkit.Many(half, func(i int) api.Bind {
				return api.Bind{Name: name(i), E: lambda(variable(name(half-1-i)), "y")}
			})}
		},
		"lets in lets": func() api.Expr {
			e := number(1)
			for i := range 2000 {
				e = api.Expr{Kind: api.ExLet, Args: list(e), Binds: testkit.Many(250, func(j int) api.Bind {
					return api.Bind{Name: name(j), E: lambda(variable(name((i+j)%250)), "y")}
				})}
			}
			return e
		},
		"many variables within many names": func() api.Expr {
			return layers(4000, testkit.Wide(testkit.Many(2*half-4000, func(i int) api.Expr { return variable(name(i % 128000)) })))
		},
		"many lambdas within many names": func() api.Expr {
			return layers(4000, testkit.Wide(testkit.Many(half-4000, func(i int) api.Expr { return lambda(variable(name(i%128000)), "y") })))
		},
		"many lambdas within some names": func() api.Expr {
			return layers(4, testkit.Wide(testkit.Many(half, func(i int) api.Expr { return lambda(variable(name(i%128)), "y") })))
		},
		"many lambdas of all names": func() api.Expr {
			names := testkit.Many(api.MaxParams, name)
			return testkit.Wide(testkit.Many(half/8, func(i int) api.Expr { return lambda(variable(names[i%32]), names...) }))
		},
	}
}

// P18.1, P18.2: great scopes take some seconds each.
func TestGreatScopes(t *testing.T) {
	for what, of := range greatScopes() {
		p := together(of())
		began := time.Now()
		q, err := prep.Prep(p)
		if took := time.Since(began); took > 30*time.Second {
			t.Errorf("%s: Prep took %v", what, took)
		}
		if err != api.OK || !prep.Prepared(q) || !core.SameProg(p, q) {
			t.Errorf("%s: error %d", what, err)
		}
		if prep.Names(p); time.Since(began) > time.Minute {
			t.Errorf("%s: it took %v", what, time.Since(began))
		}
	}
}

// P18.1: many expressions of which each must be bound.
func TestManyBound(t *testing.T) {
	t.Parallel()
	nils := slices.Repeat(list(read("(Nil)")), api.MaxParams)
	for what, e := range map[string]api.Expr{
		"many applications":  testkit.Wide(testkit.Many(api.MaxNodes/68-1, func(int) api.Expr { return application(append(list(number(1)), nils...)...) })),
		"many arguments":     testkit.Tree(api.MaxNodes * 10 / 11),
		"many constructors":  testkit.Wide(testkit.Many(api.MaxNodes/4-1, func(int) api.Expr { return read("(Blue (Nil))") })),
		"deep constructors":  deepIn(api.MaxNest-2, func(e api.Expr) api.Expr { return api.Expr{Kind: api.ExCon, Name: "Blue", Args: list(e)} }),
		"deep lambdas bound": deepIn(api.MaxNest/3, func(e api.Expr) api.Expr { return application(number(1), lambda(e, "x")) }),
	} {
		p, made := together(number(1), e), 0
		want := together(number(1), refPrep(e, &made))
		if q, err := prep.Prep(p); err != api.OK || !core.SameProg(q, want) || !prep.Prepared(q) || len(prep.Names(q)) < made || made < 1000 {
			t.Errorf("%s: error %d, %d are bound", what, err, made)
		}
	}
}

// deepIn is an expression within so many others.
func deepIn(n int, f func(e api.Expr) api.Expr) api.Expr {
	e := read("(Nil)")
	for range n {
		e = f(e)
	}
	return e
}
