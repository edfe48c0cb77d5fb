package lift_test

import (
	"fmt"
	"slices"
	"testing"
	"time"

	"thunkmill/api"
	"thunkmill/core"
	"thunkmill/lift"
	"thunkmill/testkit"
)

func application(l ...api.Expr) api.Expr { return api.Expr{Kind: api.ExApp, Args: l} }

// layers is an expression in lambdas of so many names in all, as many in one as there may be.
func layers(names []string, e api.Expr) api.Expr {
	for l := range slices.Chunk(names, api.MaxParams) {
		e = lambda(e, l...)
	}
	return e
}

// great is a program's main with lets, how many of them are known as they stand, and how many functions are lifted.
type great struct {
	e             api.Expr
	known, lifted int
}

// chains are lets within one another, around a great expression; what goes through that for each of them would take hours.
func chains() map[string]great {
	const n, calls = 1300, api.MaxNodes / 5
	f, y := several("f", n), several("y", 40)
	called := testkit.Wide(testkit.Many(calls, func(i int) api.Expr { return application(variable(f[i%n]), number(1)) }))
	plain := testkit.Wide(testkit.Many(calls, func(i int) api.Expr { return application(number(1), number(2)) }))
	free := testkit.Wide(testkit.Many(calls/2, func(i int) api.Expr { return application(variable(y[i%40]), number(2)) }))
	chain := func(e api.Expr, of func(e api.Expr, name string) api.Expr) api.Expr {
		for _, name := range f {
			e = of(e, name)
		}
		return e
	}
	inBody := func(of func(name string) api.Expr) func(e api.Expr, name string) api.Expr {
		return func(e api.Expr, name string) api.Expr {
			return letOf(name, lambda(of(name), name+"x"), e)
		}
	}
	inRight := func(body func(name string) api.Expr) func(e api.Expr, name string) api.Expr {
		return func(e api.Expr, name string) api.Expr {
			return letOf(name, lambda(e, name+"x"), body(name))
		}
	}
	one := func(string) api.Expr { return number(1) }
	z := several("z", calls)
	names := testkit.Wide(testkit.Many(calls, func(i int) api.Expr { return variable(z[i]) }))
	ofAll := func(e api.Expr) api.Expr {
		return api.Expr{Kind: api.ExLet, Args: list(e), Binds: testkit.Many(calls, func(i int) api.Bind { return api.Bind{Name: z[i], E: number(1)} })}
	}
	call := func(name string) api.Expr { return application(variable(name), number(1)) }
	calling := func(e api.Expr, name string) api.Expr {
		return letOf(name, e, lambda(call(name), name+"x"))
	}
	return map[string]great{
		"lets as a function":             {letOf("f", lambda(number(1), "x"), application(chain(variable("f"), inBody(one)), number(1))), n, n + 1},
		"lets around a right side":       {letOf("f", chain(lambda(number(1), "x"), inBody(one)), call1("f")), n, n + 1},
		"lets in right sides of lets":    {chain(lambda(number(1), "x"), calling), 1, n},
		"their applications, too":        {application(chain(lambda(plain, "x"), calling), number(1)), 1, n},
		"called in a great body":         {chain(called, inBody(one)), n, n},
		"around a great body":            {chain(plain, inBody(one)), n, n},
		"around a great body, they stay": {chain(plain, func(e api.Expr, name string) api.Expr { return letOf(name, number(1), e) }), 0, 0},
		"a great right side":             {chain(plain, inRight(call)), n, n},
		"a great right side, they stay":  {chain(plain, inRight(variable)), 0, 0},
		"around many names":              {ofAll(chain(names, inBody(one))), n, n},
		"around many names, they stay":   {ofAll(chain(names, func(e api.Expr, name string) api.Expr { return letOf(name, number(1), e) })), 0, 0},
		"many names in right sides":      {ofAll(chain(names, inRight(call))), 0, 0},
		"right sides with 40 free":       {layers(y, chain(free, inRight(call))), 0, 0},
	}
}

// wides are lets with many functions, names, or free variables.
func wides() map[string]great {
	const most = api.MaxNodes / 10
	y, f := several("y", 31), several("f", most)
	let := func(n int, body api.Expr, of func(i int) api.Expr) api.Expr {
		return api.Expr{Kind: api.ExLet, Args: list(body), Binds: testkit.Many(n, func(i int) api.Bind { return api.Bind{Name: f[i], E: lambda(of(i), "x"+f[i])} })}
	}
	z := several("z", most/2)
	return map[string]great{
		"one let of many":      {let(most, number(1), func(i int) api.Expr { return application(variable(f[most-1-i]), number(1)) }), 1, most},
		"many lets":            {testkit.Wide(testkit.Many(most, func(i int) api.Expr { return letOf(f[i], lambda(number(1), "x"+f[i]), number(2)) })), most, most},
		"all of 31 free":       {layers(y, let(most, read(sum(y)), func(i int) api.Expr { return variable(y[i%31]) })), 1, most},
		"many free, many lets": {layers(z, testkit.Wide(testkit.Many(most/2, func(i int) api.Expr { return letOf(f[i], lambda(variable(z[i]), "x"+f[i]), call1(f[i])) }))), most / 2, most / 2},
		"one let of many free": {layers(z, let(most/2, number(1), func(i int) api.Expr { return variable(z[i]) })), 0, 0},
		"a let in right sides": {let(most/4, number(1), func(i int) api.Expr { return letOf("e"+f[i], lambda(number(1), "y"+f[i]), call1("e"+f[i])) }), most/4 + 1, most / 2},
		"many arguments of one": {letOf("f", lambda(number(1), "x"), testkit.Wide(testkit.Many(most/10, func(i int) api.Expr {
			return application(slices.Insert(slices.Repeat(list(number(1)), 32), 0, variable("f"))...)
		}))), 1, 1},
	}
}

func call1(name string) api.Expr { return application(variable(name), number(1)) }

// P19.1, P19.2: great programs take some seconds each.
func TestGreat(t *testing.T) {
	t.Parallel()
	for _, of := range []func() map[string]great{chains, wides} {
		for what, x := range of() {
			p := testkit.Together(number(1), x.e)
			began := time.Now()
			q, err := lift.Lift(p)
			if err != api.OK || len(q.Binds) != x.lifted+2 {
				t.Errorf("%s: error %d, %d functions were lifted", what, err, len(q.Binds)-2)
			}
			if n := lift.Count(p); n != x.known {
				t.Errorf("%s: Count is %d", what, n)
			}
			lift.Known(p, x.e)
			if took := time.Since(began); took > 30*time.Second {
				t.Errorf("%s: it took %v", what, took)
			} else if testing.Verbose() {
				t.Logf("%s: %v", what, took)
			}
			if err := core.Check(q); err != api.OK {
				t.Errorf("%s: Check is %d", what, err)
			}
		}
	}
}

// P19.1: what becomes too great many times over is refused before it takes room.
func TestMuchTooGreat(t *testing.T) {
	y := several("y", 31)
	calls := testkit.Wide(testkit.Many(api.MaxNodes/3-100, func(int) api.Expr { return call1("f") }))
	p := testkit.Together(number(1), layers(y, letOf("f", lambda(read(sum(y)), "x"), calls)))
	began := time.Now()
	refuses(t, "31 arguments more", p, api.ErrLong)
	if took := time.Since(began); took > 20*time.Second || lift.Count(p) != 1 {
		t.Errorf("it took %v; Count is %d", took, lift.Count(p))
	}
}

// P19.1, P19.2: names as long as may be.
func TestLongNames(t *testing.T) {
	long := func(i int) string { return fmt.Sprintf("%0*d", api.MaxSource, i) }
	e := letOf(long(1), lambda(application(variable(long(1)), variable(long(0))), long(2)), application(variable(long(1)), variable(long(0))))
	p := testkit.Together(number(1), lambda(e, long(0)))
	want := with(testkit.Together(number(1), read("(\\ y -> (~1 y y))")), "~1 = (\\ a x -> (~1 a a))")
	if q := lifted(t, p); !core.SameProg(q, want) || !lift.Known(p, e) {
		t.Errorf("Lift: %s", brief(q))
	}
	q := testkit.Together(p.Binds[1].E, number(1))
	q.Binds[0].Name = long(5)
	if len(lifted(t, q).Binds) != 3 {
		t.Error("it is not lifted")
	}
}
