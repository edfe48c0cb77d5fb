package simpl_test

import (
	"fmt"
	"testing"
	"time"

	"thunkmill/api"
	"thunkmill/core"
	"thunkmill/testkit"
)

func let(body api.Expr, binds ...api.Bind) api.Expr {
	return api.Expr{Kind: api.ExLet, Binds: binds, Args: list(body)}
}

func application(l ...api.Expr) api.Expr { return api.Expr{Kind: api.ExApp, Args: l} }

// spread is a constructor with many parts, which may be more than one has.
func spread(l []api.Expr) api.Expr { return api.Expr{Kind: api.ExCon, Name: "Any", Args: l} }

// layers is an expression in so many others.
func layers(n int, e api.Expr, f func(i int, e api.Expr) api.Expr) api.Expr {
	for i := range n {
		e = f(i, e)
	}
	return e
}

func name(i int) string { return fmt.Sprint("x", i) }

// greatPass is an expression, and how many rewritings a pass over it has, at most as many as there may be; -1, if that is not told.
type greatPass struct {
	e api.Expr
	n int
}

// greatPasses are expressions that take as many rewritings as there may be, or as great ones.
func greatPasses() map[string]func() greatPass {
	f := variable("f")
	return map[string]func() greatPass{
		"dead bindings, the last one ahead": func() greatPass {
			// Each one stands in the one behind it.
			l := testkit.Many(6600, func(i int) api.Bind {
				return api.Bind{Name: name(i), E: application(f, variable(name(max(0, i-1))))}
			})
			l[0].E = read("(f 1)")
			return greatPass{let(number(1), l...), 6600}
		},
		"atoms in one let": func() greatPass {
			l := testkit.Many(9999, func(i int) api.Bind { return api.Bind{Name: name(i), E: variable("f")} })
			return greatPass{let(spread(testkit.Many(9999, func(i int) api.Expr { return variable(name(i)) })), l...), 9999}
		},
		"atoms in a row": func() greatPass {
			// Each one is what the one ahead is.
			l := testkit.Many(9999, func(i int) api.Bind { return api.Bind{Name: name(i), E: variable(name(i - 1))} })
			l[0].E = f
			return greatPass{let(spread(testkit.Many(9999, func(i int) api.Expr { return variable(name(i)) })), l...), 9999}
		},
		"lets in lets": func() greatPass {
			return greatPass{layers(990, f, func(i int, e api.Expr) api.Expr { return let(e, api.Bind{Name: "x", E: read("(f x)")}) }), 0}
		},
		"once in once": func() greatPass {
			return greatPass{layers(990, read("(f x0)"), func(i int, e api.Expr) api.Expr {
				parts := append(testkit.Many(17, func(int) api.Expr { return f }), variable(name(i+1)))
				return let(e, api.Bind{Name: name(i), E: spread(parts)})
			}), 990}
		},
		"lambdas in many lambdas": func() greatPass {
			return greatPass{layers(240, variable("x0"), func(i int, e api.Expr) api.Expr {
				lam := api.Expr{Kind: api.ExLam, Params: []string{"y"}, Args: list(application(f, e, variable("y")))}
				return let(lam, api.Bind{Name: name(i), E: withX("(\\ z -> (z X))", variable(name(i+1)))})
			}), 240}
		},
		"calls": func() greatPass {
			return greatPass{spread(testkit.Many(4999, func(int) api.Expr { return read("((\\ x -> x) f)") })), 9998}
		},
		"calls in calls": func() greatPass {
			return greatPass{layers(490, f, func(i int, e api.Expr) api.Expr { return application(read("(\\ x -> (x x))"), e) }), -1}
		},
		"calls in lambdas": func() greatPass {
			return greatPass{layers(330, f, func(i int, e api.Expr) api.Expr {
				return application(api.Expr{Kind: api.ExLam, Params: []string{name(i)}, Args: list(application(variable(name(i)), e, variable(name(i))))}, variable("g"))
			}), -1}
		},
		"sums": func() greatPass {
			return greatPass{spread(testkit.Many(6666, func(int) api.Expr { return read("(#add 1 2)") })), 6666}
		},
		"sums in sums": func() greatPass {
			return greatPass{application(f, growing(990), growing(990), growing(990), growing(990), growing(990), growing(990), growing(990), growing(990), growing(990), growing(990)), 9900}
		},
		"applications in applications": func() greatPass {
			return greatPass{layers(999, f, func(i int, e api.Expr) api.Expr {
				if i == 0 {
					return e
				}
				return application(append(list(e), testkit.Many(16, func(int) api.Expr { return f })...)...)
			}), 499}
		},
		"cases in cases": func() greatPass {
			return greatPass{layers(990, f, func(i int, e api.Expr) api.Expr {
				return api.Expr{Kind: api.ExCase, Args: list(e), Alts: []api.Alt{{Kind: api.AltInt, Num: 1, E: number(2)}, {Kind: api.AltElse, E: f}}}
			}), -1}
		},
		"cases of one in cases of one": func() greatPass {
			return greatPass{layers(400, f, func(i int, e api.Expr) api.Expr {
				return api.Expr{Kind: api.ExCase, Args: list(e), Alts: []api.Alt{{Kind: api.AltElse, Vars: []string{"x"}, E: spread(testkit.Many(40, func(int) api.Expr { return variable("x") }))}}}
			}), -1}
		},
		"lets in cases": func() greatPass {
			return greatPass{layers(490, f, func(i int, e api.Expr) api.Expr {
				return api.Expr{Kind: api.ExCase, Args: list(let(e, api.Bind{Name: "y", E: read("(y y)")})), Alts: []api.Alt{{Kind: api.AltInt, E: number(2)}}}
			}), -1}
		},
		"lets in applications": func() greatPass {
			return greatPass{layers(490, f, func(i int, e api.Expr) api.Expr {
				return application(let(e, api.Bind{Name: "y", E: read("(y y)")}), f)
			}), -1}
		},
		"many alternatives": func() greatPass {
			inner := api.Expr{Kind: api.ExCase, Args: list(f)}
			for i := range 1400 {
				inner.Alts = append(inner.Alts, api.Alt{Kind: api.AltInt, Num: int64(i), E: number(int64(i % 3))})
			}
			outer := read("(case f of 1 -> (\\ x -> (f (x 1 2 3 4 5 6))); 2 -> f)")
			outer.Args = list(inner)
			return greatPass{outer, -1}
		},
		"nothing at all": func() greatPass { return greatPass{testkit.Tree(maxSize), -1} },
		"one at the end": func() greatPass {
			return greatPass{spread(append(testkit.Many(19990, func(int) api.Expr { return f }), read("(#add 1 2)"))), 1}
		},
	}
}

// P17.2, T6: passes of as many rewritings as there may be, over expressions as great and as deep as they may be, come to an end in a time that can be waited for.
func TestGreatPasses(t *testing.T) {
	for _, what := range sorted(greatPasses()) {
		g := greatPasses()[what]()
		began := time.Now()
		got, n := passed(t, g.e, api.MaxRewrites)
		took := time.Since(began)
		if g.n >= 0 && n != g.n || core.Size(got) == 0 {
			t.Errorf("%s: %d rewritings, want %d; %s", what, n, g.n, brief(got))
		}
		if took > time.Minute {
			t.Errorf("%s: it took %v", what, took)
		}
	}
}

// P17.1, T6: each rule at each place of great expressions takes a time that can be waited for.
func TestGreatRewritings(t *testing.T) {
	for _, what := range sorted(greatPasses()) {
		e := greatPasses()[what]().e
		began := time.Now()
		for _, at := range []int{0, 1, core.Size(e) / 2, core.Size(e) - 1} {
			for _, rule := range allRules() {
				if applies(t, e, at, rule) {
					rewritten(t, e, at, rule)
				}
			}
		}
		if took := time.Since(began); took > time.Minute {
			t.Errorf("%s: it took %v", what, took)
		}
	}
}
